/-
  snap.shorts: its contract.
-/
import Derived.Test.YtdggacabjlengaaDoorLongs
namespace Go.Proofs.YtdggacabjlengaaDoor
open Go.RowKit Go.Shelf
set_option linter.unusedVariables false

attribute [local go_sem] Oper.semAt_some

theorem cut_tail9 {P : Program} {t e : TypeId} {i : TypeInfo} (ht : P.underlying t = some (.slice e)) (hi : P.info? e = some i) (h1 : i.size = 1) (A : Option Addr) (n c k : Nat) (hk : k ≤ n) (hnc : n ≤ c) :
    ∃ A', (∀ W : World, (Instr.slice t (.slice A n c) (some (.int .i64 (k : Int))) none none).run P W = .ok (.slice A' (n - k) (c - k)) W) ∧ ∀ {w : World} {B : Nat} {kd : IntKind} {l : List Int}, Rd w B kd A n l → Rd w B kd A' (n - k) (l.drop k) := by
  have he : P.elem t = e := by simp [Program.elem, ht]
  have hu : P.underlying t = some (.slice (P.elem t)) := by rw [he]; exact ht
  refine ⟨if c = k then A else A.map (·.add k), fun W => ?_, fun h => h.cut hk hnc⟩
  rw [run_slice_l W t A n c hu .i64 (k : Int) (by omega) (by omega), he]
  simp [sizeOf, run_typeInfo, hi, h1, sliced, go_sem]
theorem chunks_len {α : Type} {k : Nat} (hk : k ≠ 0) (l : List α) : (chunks k l).length ≤ l.length := by
  refine chunks_ind hk (M := fun l => (chunks k l).length ≤ l.length) (by rw [chunks_nil]; simp) (fun l hl ih => ?_) l
  have h0 : 0 < l.length := List.length_pos_iff.2 hl
  rw [chunks_cons hl hk, List.length_cons]
  rw [List.length_drop] at ih
  omega
theorem marks_cell {B : Nat} {w w' : World} {a : Addr} {v : Value} (h : CellsKept B w w') (hc : w.cell? a = some v) : w'.cell? a = some v := by
  unfold World.cell? at hc
  cases ho : w.heap[a.block]? with
  | none => rw [ho] at hc; cases hc
  | some o =>
    have hcc : o.isCells = true := by
      rw [ho] at hc
      cases o <;> first | rfl | (simp at hc)
    refine (World.cell?_of_block (a := a) ((h.2 _ _ ho hcc).trans ho.symm)).trans ?_
    unfold World.cell?
    exact hc
/-- The text of the first pieces. -/
def textJ (pre : List HJ) : List Int := (pre.map fun h => h.l.take (h.l.length - 4)).flatten
theorem textJ_len {pre : List HJ} (h : ∀ c ∈ pre.map HJ.l, c.length ≤ 8) : (textJ pre).length ≤ 4 * pre.length := by
  induction pre with
  | nil => simp [textJ]
  | cons c pre ih =>
    have h1 := h c.l (by simp)
    have h2 := ih fun d hd => h d (by simp at hd ⊢; exact .inr hd)
    have h3 : textJ (c :: pre) = c.l.take (c.l.length - 4) ++ textJ pre := rfl
    rw [h3, List.length_append, List.length_take, List.length_cons]
    omega
/-- Between two rounds. -/
structure SI (w : World) (r D1 : Nat) (vs vk : Value) (pre : List HJ) (W : World) : Prop where
  row : ∃ v, Boxed W r 24 v ∧ W.ownsRow (r + 3) 5 1 v (textJ pre).length ((textJ pre).map (Value.int .u8))
  d0 : Boxed W (r + 1) 24 vs
  d1 : Boxed W (r + 2) 3 vk
  low : Below w.heap.size w W
  size : D1 ≤ W.heap.size
theorem SI.own {w : World} {r D1 : Nat} {vs vk : Value} (hr : r + 2 < D1) (hw : w.heap.size ≤ D1) : OwnT 9 D1 (SI w r D1 vs vk) := fun _ W W' row h hg hr' => by
  obtain ⟨⟨v, hv, hrow⟩, h2, h3, hlow, hsz⟩ := h
  have hne : ∀ k, k < D1 → some k ≠ row := fun k hk e => by have := (hr' k e.symm).1; omega
  refine ⟨⟨v, (hg.block r hv.lt (hne r (by omega))).trans hv, hrow.kept hg (row_ne (by decide) hrow fun r e => (hr' r e).2)⟩, (hg.block _ h2.lt (hne _ (by omega))).trans h2, (hg.block _ h3.lt (hne _ (by omega))).trans h3, ?_, Nat.le_trans hsz hg.size⟩
  exact hlow.grown hg hlow.size (fun k e => by have := (hr' k e).1; omega)

set_option maxRecDepth 100000 in
set_option maxHeartbeats 4000000 in
theorem shorts_in (A : Option Addr) (n c : Nat) (b : List Int) (w : World) (hl : Rd w w.heap.size .u8 A n b) (hb : Byt b) (hnc : n ≤ c) (hn : n ≤ 1000000) :
    CallsIn Fence.wide 4 Tryd.prog 49 #[.slice A n c] w (NumsOut 2 b w) := by
  obtain ⟨i0, hi, hz0, hz1, hz2⟩ := info_parts Nu.info_byte
  have Hl := Lib.hid (⟨hl, hb, hl.1⟩ : _ ∧ _ ∧ _)
  clear hl hb
  refine callsIn_of_wp_marks Tryd.func49 rfl trivial ?_ rfl
  simp only [Tryd.ntmps49, List.size_toArray, List.length_cons, List.length_nil, Nat.reduceAdd, Nat.reduceSub, Array.replicate_succ, Array.replicate_zero, List.push_toArray, List.append_toArray, List.nil_append, List.cons_append]
  by_cases h2 : n < 2
  · have e1 : decide ((n : Int) < 2) = true := by simp; omega
    have Hno := Lib.hid (show ∀ s, ¬ IsSnap s 2 b from fun s h => by have := (two_of h).1; have := Hl.out.2.2; omega)
    gi_wp2_with fail
    refine leaves_marks (B := w.heap.size) [] _ ⟨by simp, fun d hd => by cases hd⟩ fun w' hw' => ⟨.tuple #[.slice none 0 0, .bool false], ?_, .inr ⟨⟨_, _, _, rfl⟩, Hno.out⟩, (Below.refl _ _).trans hw'.1⟩
    simp [results, Tryd.results49, go_sem]
  have e1 : decide ((n : Int) < 2) = false := by simp; omega
  have e1' : ¬ ((n : Int) < 2) := by omega
  obtain ⟨r, hr⟩ : ∃ r, r = w.heap.size := ⟨_, rfl⟩
  obtain ⟨w0, hw0⟩ : ∃ w0, w0 = w.alloc (.cells #[.slice none 0 0] 24) := ⟨_, rfl⟩
  have hs0 : w0.heap.size = r + 1 := by rw [hw0, hr]; simp
  have br0 : Boxed w0 r 24 (.slice none 0 0) := by rw [hw0, hr]; exact Boxed.new _ _ _
  have hB0 : Below w.heap.size w w0 := by rw [hw0]; exact (Below.refl _ _).alloc (Nat.le_refl _) _
  obtain ⟨A', hrun, hcut⟩ := cut_tail9 Tryd.underlying24 hi hz1 A n c 2 (by omega) hnc
  have hrun2 : ∀ W : World, (Instr.slice 24 (.slice A n c) (some (.int .i64 2)) none none).run Tryd.prog W = .ok (.slice A' (n - 2) (c - 2)) W := hrun
  obtain ⟨m, hm⟩ : ∃ m, m = n - 2 := ⟨_, rfl⟩
  obtain ⟨c', hc'⟩ : ∃ c', c' = c - 2 := ⟨_, rfl⟩
  rw [← hm, ← hc'] at hrun2
  have HE := Lib.hid (⟨hw0, hr, br0, hB0, hs0⟩ : _ ∧ _ ∧ _ ∧ _ ∧ _)
  have hmc : m ≤ c' ∧ m ≤ 1000000 := by omega
  have hrd := hcut Hl.out.1
  rw [← hm] at hrd
  have Hm := Lib.hid (⟨hm, hmc.1, hmc.2, hrd⟩ : _ ∧ _ ∧ _ ∧ _)
  clear hw0 hr br0 hB0 hs0 hrun hcut hm hmc hc' hrd
  gi_wp2_with fail
  rw [← HE.out.1, ← HE.out.2.1]
  refine ⟨trivial, ?_⟩
  refine (callsIn_wide.2 (chunkJ_any 8 (by omega) A' m c' w0)).mono ?_
  rintro e w2 ⟨rfl, hl2, hk2, hs2, hb2⟩
  obtain ⟨hw0, hr, br0, hB0, hs0⟩ := HE.out
  rw [hs0] at hl2 hk2 hs2 ⊢
  have hB2 := hB0.trans (hb2.mono hB0.size)
  obtain ⟨L, hL⟩ : ∃ L, L = b.drop 2 := ⟨_, rfl⟩
  have hrdL : Rd w2 w.heap.size .u8 A' m L := by
    rw [hL]
    exact rd_low Hm.out.2.2.2 (w' := w2) (fun k hk => hB2.block k hk)
  have hI0 : SI w r w2.heap.size (.slice A' m c') (.int .i64 8) [] w2 := ⟨⟨_, (hb2.block _ br0.lt).trans br0, World.ownsRow_nil _ _ _ _⟩, hl2, hk2, hB2, Nat.le_refl _⟩
  have Hd := Lib.hid (show w.heap.size = r ∧ w2.heap.size = r + 3 by omega)
  have H0 := Lib.hid (⟨hI0, hl2, hk2, hrdL, hL⟩ : _ ∧ _ ∧ _ ∧ _ ∧ _)
  clear hI0 hl2 hk2 hrdL hL hs2 hb2 hB2 hw0 hr br0 hB0 hs0 e1 e1'
  gi_wp2_with fail
  refine range_W 9 rfl (by decide) (gf := 67) (lb := #[.pointer (some ⟨r + 1, 0, none⟩), .pointer (some ⟨r + 1 + 1, 0, none⟩)]) rfl trivial (enters_of Tryd.func67 (by kernel_rfl) rfl)
    (chunkJ_seq (tt := 9) 8 (by omega) (by omega) (r + 1) (KpD w.heap.size (r + 1)) (fun A A' h b t v hbD ht hb => by rcases hbD with rfl | rfl; exact h.2.1.trans hb; exact h.2.2.1.trans hb) (fun _ _ _ h h' => h.trans h') (fun _ => ⟨fun _ _ => rfl, rfl, rfl, Nat.le_refl _⟩) (KpD.refl _ _) (by have := Hm.out.2.2.1; omega) Hm.out.2.1 w2 H0.out.2.1 H0.out.2.2.1 (fun W1 W' hW hk => (rd_low H0.out.2.2.2.1 fun k hk' => (hk.1 k hk').trans (hW.block k (by have := Hd.out; omega))).on (Below.refl _ _) (by have := hW.size; have := hk.2.2.2; have := Hd.out; omega)))
    (fun h h' => h.trans h') (KpD.put (by have := Hd.out; omega) (by have := Hd.out; omega)) (Below.refl _ _) (fun _ => rfl)
    (SI w r w2.heap.size (.slice A' m c') (.int .i64 8)) (fun c (_ : List HJ) W => False) (SI.own (by have := Hd.out; omega) (by have := Hd.out; omega))
    (fun _ _ _ _ _ h _ _ => h) H0.out.1
    (fun d a' W => Rd W W.heap.size .u8 d.A d.n d.l ∧ a' = { tmps := #[.slice A n c, undef, .slice none 0 0, .bool false, .pointer (some ⟨r, 0, none⟩), .slice d.A d.n d.n, undef, undef, .slice A n c, .int .i64 n, .bool false, .slice A n c, .slice A' m c', .func (.func 67) #[] #[.pointer (some ⟨r + 1, 0, none⟩), .pointer (some ⟨r + 1 + 1, 0, none⟩)], .slice d.A d.n d.n, undef, undef, undef, undef, undef, undef, undef, undef, undef, undef, undef, undef, undef, undef, undef, undef, undef], defers := [] })
    (fun _ _ _ _ _ _ h hi ho => ⟨rd_put hi ho h.1, h.2⟩) ?assign ?body ?done ?stop
  case assign =>
    intro lp pre d W' hI hok
    gi_wp2
    exact ⟨KeepsFrom.refl _ _, KpD.refl _ _ _, hI, hok.2.2.2.2, by first | rfl | trivial⟩
  case body =>
    rintro lp pre d a' W hI ⟨hrd, rfl⟩ ⟨_, hch, hdl, hne, hdn, _⟩
    obtain ⟨dA, dn, dl⟩ := d
    dsimp only at hrd hch hdl hne hdn
    dsimp only
    have hpl : 8 * pre.length < m := by
      have h1 : 0 < (L.drop (8 * pre.length)).length := List.length_pos_iff.2 hne
      rw [List.length_drop, H0.out.2.2.2.1.1] at h1
      omega
    have hdn8 : 1 ≤ dn ∧ dn ≤ 8 := by
      have h1 : 0 < (L.drop (8 * pre.length)).length := List.length_pos_iff.2 hne
      rw [hdn, hdl, List.length_take]; omega
    have hle : ∀ c ∈ pre.map HJ.l, c.length ≤ 8 := fun c hc => chunk_le (by omega) L c (by rw [hch]; exact List.mem_append_left _ hc)
    obtain ⟨N, hN⟩ : ∃ N, (textJ pre).length = N := ⟨_, rfl⟩
    have hNle : N ≤ 4000000 := by
      have h1 := textJ_len hle
      have := Hm.out.2.2.1
      rw [hN] at h1
      omega
    obtain ⟨q, hq⟩ : ∃ q, q = dn - 4 := ⟨_, rfl⟩
    have hq8 : q ≤ 8 := by omega
    have hd := Hd.out
    obtain ⟨v, hv, hrow⟩ := hI.row
    rw [hN] at hrow
    obtain ⟨A3, c3, rfl, _⟩ := own_slice hrow
    have cv := hv.cell
    have hsub : IntKind.i64.wrap ((dn : Int) - 4) = (dn : Int) - 4 := by rw [IntKind.wrap_i64] <;> omega
    have hmax : ∀ (ts : Array TypeId) (t : TypeId) (w : World), (Builtin.max_ ts t #[.int .i64 0, .int .i64 ((dn : Int) - 4)]).run Tryd.prog w = .ok (.int .i64 (q : Int)) w := fun ts t w => by
      rw [run_max_int2]
      exact congrArg (fun x => Result.ok (Value.int .i64 x) w) (by split <;> omega)
    have hsl := Cr.cut_first Tryd.underlying24 hi hz1 dA dn dn q (by omega)
    obtain ⟨bl, off, hdA, _, _⟩ := hrd.at_ (by omega)
    subst hdA
    have hrq := hrd.first (m := q) (by omega)
    have ht' : textJ (pre ++ [(⟨some ⟨bl, off, none⟩, dn, dl⟩ : HJ)]) = textJ pre ++ dl.take q := by
      simp [textJ, hq, hdn]
    have HI := Lib.hid (⟨hI, hv, hrow, hrq, ht', hN, hd, hrd⟩ : _ ∧ _ ∧ _ ∧ _ ∧ _ ∧ _ ∧ _ ∧ _)
    clear hI hv hrow hrd hch hdl hne hdn hle hpl hN hq hd ht' hrq
    gi_wp2_with fail
    refine wpIn_region_still_tail 7 (by kernel_rfl) (by kernel_rfl) (by simp) ?_
    simp only [List.take_succ_cons, List.take_zero, List.drop_succ_cons, List.drop_zero]
    repeat still_step
    refine wpStill_nil ?_
    change wpListIn _ _ _ _ _ _ _ W.drew
    gi_wp2_with (gi_at_builtin; refine hold ?_)
    refine unhold (wpListIn_append_own _ rfl _ _ 24 rfl (r + 3) 5 i0 (.int .u8 0) 1 1 Tryd.underlying24 hi hz0 hz1 hz2 rfl (by decide) _ _ _ rfl (show W.drew.ownsRow _ _ _ _ _ _ from HI.out.2.2.1) ⟨bl, off, none⟩ q dn ((dl.take q).map (Value.int .u8)) rfl (by rw [List.length_map, HI.out.2.2.2.1.1, Nat.mul_one]) (show ∀ j u, _ → W.drew.cell? _ = some u from HI.out.2.2.2.1.cells) (fun u hu => by obtain ⟨x, _, rfl⟩ := List.mem_map.1 hu; rfl) (by unfold maxLen; omega) (by omega) (by have h1 := HI.out.1.size; have h2 := HI.out.2.2.2.2.2.2.1; show r + 3 ≤ W.heap.size; omega) ?_)
    intro v5 w5 hown' hgrow _
    obtain ⟨hI, hv, hrow, hrq, ht', hN, hd, hrd⟩ := HI.out
    obtain ⟨A5, c5, rfl, _⟩ := own_slice hown'
    have hvd : Boxed W.drew r 24 _ := hv
    obtain ⟨hv5, hv6, hr6, hk6, hlow6, hbr6⟩ := box_app_low (D := 0) hvd (by omega) (show W.drew.ownsRow _ _ _ _ _ _ from hrow) hown' hgrow (by show r ≤ W.heap.size; have := hI.size; omega)
    have cv5 := hv5.cell
    have fv5 := hv5.frozen
    have H6 := Lib.hid (⟨hv6, hr6, hk6, hlow6, hbr6⟩ : _ ∧ _ ∧ _ ∧ _ ∧ _)
    clear hv5 hv6 hr6 hk6 hlow6 hbr6 hown' hgrow hvd cv hI hv hrow hrq ht' hN hd hrd hsub hmax hsl
    gi_wp2_with fail
    obtain ⟨hI, hv, hrow, hrq, ht', hN, hd, hrd⟩ := HI.out
    obtain ⟨hv6, hr6, hk6, hlow6, hbr6⟩ := H6.out
    have hWs : w2.heap.size ≤ W.drew.heap.size := hI.size
    have o6 : ∀ k, k < r + 3 → k ≠ r → (w5.setCell ⟨r, 0, none⟩ (.slice A5 (N + q) c5)).heap[k]? = W.heap[k]? := fun k hk h1 => hlow6 k hk h1 (by omega)
    have kd : KeepsFrom w2.heap.size W W.drew := ⟨Nat.le_refl _, fun _ _ _ h _ => h⟩
    have k5 := kd.trans (hk6.from w2.heap.size)
    refine ⟨⟨k5.size, k5.same⟩, ⟨fun k hk => o6 k (by omega) (by omega), o6 _ (by omega) (by omega), o6 _ (by omega) (by omega), k5.size⟩,
      ⟨⟨_, hv6, ?_⟩, (o6 _ (by omega) (by omega)).trans hI.d0, (o6 _ (by omega) (by omega)).trans hI.d1, (hI.low.drew).trans (hbr6.mono (by omega)), Nat.le_trans hI.size k5.size⟩⟩
    rw [ht', List.map_append, List.length_append, hN, hrq.1]
    exact hr6
  case stop =>
    intro D c' pre W _ h
    exact h.elim
  case done =>
    rintro D' ys W hD2 hys hI hK
    have hd := Hd.out
    obtain ⟨v, hv, hrow⟩ := hI.row
    obtain ⟨N, hN⟩ : ∃ N, (textJ ys).length = N := ⟨_, rfl⟩
    rw [hN] at hrow
    obtain ⟨A3, c3, rfl, hc3⟩ := own_slice hrow
    have hts : textJ ys = stripL L := by
      rw [stripL, ← hys, List.map_map]
      rfl
    have hle : ∀ c ∈ ys.map HJ.l, c.length ≤ 8 := fun c hc => chunk_le (by omega) L c (by rw [← hys]; exact hc)
    have hNle : N ≤ 1000000000 := by
      have h1 := textJ_len hle
      rw [hN] at h1
      have h2 := congrArg List.length hys
      rw [List.length_map] at h2
      have h3 := chunks_len (k := 8) (by omega) L
      rw [H0.out.2.2.2.1.1] at h3
      have := Hm.out.2.2.1
      omega
    have hbT : Byt (textJ ys) := fun x hx => by
      obtain ⟨c, hc, hx⟩ := List.mem_flatten.1 hx
      obtain ⟨d, hd, rfl⟩ := List.mem_map.1 hc
      have h1 : d.l ∈ chunks 8 L := by rw [← hys]; exact List.mem_map_of_mem hd
      have h2 : x ∈ (chunks 8 L).flatten := List.mem_flatten.2 ⟨_, h1, List.mem_of_mem_take hx⟩
      rw [chunks_flat (by omega), H0.out.2.2.2.2] at h2
      exact Hl.out.2.1.drop 2 x h2
    have hrT : Rd W W.heap.size .u8 A3 N (textJ ys) := Rd.of_own hrow
    have cv := hv.cell
    have HI := Lib.hid (⟨hI, hK, hD2, hrT, hbT, hts⟩ : _ ∧ _ ∧ _ ∧ _ ∧ _ ∧ _)
    clear hI hK hD2 hrow hv hrT hbT hts hle hys hd hN
    gi_wp2_with fail
    refine ⟨trivial, ?_⟩
    refine (callsIn_wide.2 (Nu.takes_any A3 N c3 (textJ ys) 5 W HI.out.2.2.2.1 HI.out.2.2.2.2.1 hc3 (by omega))).mono ?_
    rintro e w3 ⟨⟨v1, v2, rfl, hg1, -⟩, hb3⟩
    obtain ⟨l, hll⟩ : ∃ l, (Nu.takesP (textJ ys) 5).1 = l := ⟨_, rfl⟩
    obtain ⟨er, her⟩ : ∃ er, (Nu.takesP (textJ ys) 5).2.2 = er := ⟨_, rfl⟩
    rw [hll] at hg1
    rw [her]
    obtain ⟨A5, c5, rfl, hc5, hr5⟩ := hg1
    obtain ⟨n5, hn5⟩ : ∃ n5, l.length = n5 := ⟨_, rfl⟩
    rw [hn5] at hc5 hr5 ⊢
    have HB := Lib.hid (⟨hc5, hr5, hll, her, hn5, hb3⟩ : _ ∧ _ ∧ _ ∧ _ ∧ _ ∧ _)
    clear hc5 hr5 hll her hn5 hb3 cv
    gi_wp2_with fail
    obtain ⟨hI, hK, hD2, hrT, hbT, hts⟩ := HI.out
    obtain ⟨hc5, hr5, hll, her, hn5, hb3⟩ := HB.out
    have hd := Hd.out
    have hl3 := hI.low.trans (hb3.mono hI.low.size)
    refine leaves_marks (B := w.heap.size) [D'] _ ⟨by simp, fun d hd' => ?_⟩ fun w' hw' => ⟨.tuple #[.slice A5 n5 c5, .bool (er == 0)], ?_, ?_, hl3.trans hw'.1⟩
    · obtain rfl : d = D' := by simpa using hd'
      exact ⟨by omega, (hb3.block _ (Array.getElem?_eq_some_iff.1 hK).1).trans hK⟩
    · clear hd
      simp [results, Tryd.results49, go_sem]
    · by_cases h0 : er = 0
      · subst h0
        have h5 : n5 = 5 := by rw [← hn5, ← hll]; exact takes_len her
        subst h5
        refine .inl ⟨l, A5, c5, hn5, rfl, hc5, ?_, fun s hs => ?_⟩
        · refine ⟨hn5, fun h => ?_⟩
          obtain ⟨b', o', e', hlt, hc⟩ := hr5.2 h
          exact ⟨b', o', e', Nat.lt_of_lt_of_le hlt hw'.1.size, fun i hi => (marks_cell hw' (hc i hi))⟩
        · have h1 := (two_of hs).2
          rw [← H0.out.2.2.2.2, ← hts] at h1
          rw [← hll, h1]
      · have e0 : (er == 0) = false := by simpa using h0
        rw [e0]
        refine .inr ⟨⟨_, _, _, rfl⟩, fun s hs => h0 ?_⟩
        have h1 := (two_of hs).2
        rw [← H0.out.2.2.2.2, ← hts] at h1
        rw [← her, h1]

theorem shorts_any (A : Option Addr) (n c : Nat) (b : List Int) (w : World) (hl : Rd w w.heap.size .u8 A n b) (hb : Byt b) (hnc : n ≤ c) (hn : n ≤ 1000000) : Calls Tryd.prog 49 #[.slice A n c] w (NumsOut 2 b w) := callsIn_wide.1 (shorts_in A n c b w hl hb hnc hn)



end Go.Proofs.YtdggacabjlengaaDoor
