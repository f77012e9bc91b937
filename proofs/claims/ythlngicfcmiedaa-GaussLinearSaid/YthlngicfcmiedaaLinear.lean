/-
  moultlaw02.apart; GaussLinear's walk: it returns true, and turns nothing that lay.
-/
import Derived.Test.YthlngicfcmiedaaApart
import Derived.OwnWalk
namespace Go.Proofs.Ythlngicfcmiedaa
open Go.RowKit

/-- What the law's rest comes to, and how the walk spells it. -/
theorem rest_spelt (n : Int) : ∃ m : Int, n.tmod 10007 = m ∧ -10007 < m ∧ m < 10007 ∧ (m + 10007) % 10007 = n % 10007 := by
  by_cases h : n < 0
  · refine ⟨_, tmod_neg h, ?_⟩
    omega
  · refine ⟨_, Int.tmod_eq_emod_of_nonneg (by omega), ?_⟩
    omega

theorem rest_up (m : Int) : (m + 10007) % 10007 = m % 10007 := by omega

set_option maxRecDepth 100000 in
set_option maxHeartbeats 400000 in
theorem apart_call {x y u v : Nat} {p q : Int × Int} (w : World) (hp : Pt x y p) (hq : Pt u v q) :
    Calls Try.prog 19 #[.complex .f64 x y, .complex .f64 u v] w fun e w' => e = .returned (.agg #[.int .i64 (apartP p q).1, .int .i64 (apartP p q).2]) ∧ Below w.heap.size w w' := by
  obtain ⟨hx, hy, ⟨a0, a1⟩, b0, b1⟩ := hp
  obtain ⟨hu, hv, ⟨c0, c1⟩, d0, d1⟩ := hq
  have cv : ∀ (z : Nat) (n : Int), W z n → (0 ≤ n ∧ n ≤ 10006) → ∀ w, (convert 22 3 (.float .f64 z)).run Try.prog w = .ok (.int .i64 n) w := fun z n hz hn w => run_convert_float_int w 22 3 .f64 .i64 z _ (by rw [Try.underlying22]; rfl) Try.underlying3 (hz.toInt (by omega))
  have e1 := cv _ _ hx ⟨a0, a1⟩
  have e2 := cv _ _ hy ⟨b0, b1⟩
  have e3 := cv _ _ hu ⟨c0, c1⟩
  have e4 := cv _ _ hv ⟨d0, d1⟩
  clear cv hx hy hu hv
  obtain ⟨m, hm, m0, m1, hf⟩ := rest_spelt (p.1 - q.1)
  obtain ⟨k, hk, k0, k1, hg⟩ := rest_spelt (p.2 - q.2)
  have Hf := Lib.hid hf
  have Hg := Lib.hid hg
  clear hf hg
  go_enter Try.func19, Try.ntmps19
  go_wp2_with fail
  exact bodyPost_ret (v := .agg #[.int .i64 (apartP p q).1, .int .i64 (apartP p q).2]) (by simp [results, Try.results19, go_sem]; exact ⟨by rw [← rest_up, Hf.out]; rfl, by rw [← rest_up, Hg.out]; rfl⟩) rfl ⟨rfl, (Below.refl _ _).alloc (Nat.le_refl _) _⟩


/-- The walk stops at a goal that is held. -/
theorem hold {p : Prop} (h : Hid p) : p := h
theorem unhold {p : Prop} (h : p) : Hid p := h
theorem made_list (n : Nat) : (madeCells (Value.int .u8 0).cells (n * 1)).toList = (List.replicate n (0 : Int)).map (Value.int .u8) := by
  have h : (Value.int .u8 0).cells = #[.int .u8 0] := rfl
  rw [h, Nat.mul_one, toList_madeCells_one, List.map_replicate]
/-- 'make' of n noughts. -/
theorem wpList_make_noughts {P : Program} {w : World} {ops : Array Oper} {rest : List Oper} {o : Oper} {a : Act} {Q : Exit → Act → World → Prop} {t e : TypeId} {i : TypeInfo} {kl kc : IntKind} {n : Nat}
    (hg : o.guard = none) (l c : Operand) (hop : o.op = Op.makeSlice t l c) (h1 : P.underlying t = some (.slice e)) (h2 : P.info? e = some i) (h3 : i.zero = some (.int .u8 0)) (h4 : i.size = 1) (h5 : i.bytes = 1)
    (hl : a.eval l = .int kl n) (hc : a.eval c = .int kc n) (b2 : n ≤ 1048576)
    (hK : ∀ w', Rd w' w'.heap.size .u8 (some ⟨w.heap.size, 0, none⟩) n (List.replicate n 0) → Below w.heap.size w w' → wpList P ops Q rest (a.put o.dst (.slice (some ⟨w.heap.size, 0, none⟩) n n)) w') :
    wpList P ops Q (o :: rest) a w := by
  refine wpList_plain hg fun K hK' => ?_
  obtain ⟨w', hrun, r1, r2⟩ := run_makeSlice_full (P := P) w w.heap.size t e i _ 1 h1 h2 h3 h4 kl kc n (by omega) (by rw [h5]; omega) (by unfold maxLen; omega) (Nat.le_refl _)
  rw [made_list] at r1
  unfold Oper.wp
  simp [execOp, hop, hl, hc, hrun, Result.andThen]
  exact hK' _ _ (hK w' (Rd.of_own r1) ((Below.refl _ w).grown r2 (Nat.le_refl _) (fun k e => by cases e)))

set_option maxRecDepth 100000 in
set_option maxHeartbeats 1000000 in
theorem linear_in (a b c d : Int) (A : Option Addr) (n cp : Nat) (l : List Int) (w : World) (h : Low a b c d) (hr : Rd w w.heap.size .u8 A n l) (hl : Byt l) (hn : n ≤ 60) :
    Calls Try.prog 7 #[.int .i64 a, .int .i64 b, .int .i64 c, .int .i64 d, .slice A n cp] w fun e w' => e = .returned (.bool true) ∧ Below w.heap.size w w' := by
  obtain ⟨m, hm, hm0⟩ := min4_in (P := Try.prog) h
  obtain ⟨M, hM, hM0⟩ := max4_in (P := Try.prog) h
  obtain ⟨ha, hb, hc, hd⟩ := h
  have hz : Pt (floatOfInt .f64 a) (floatOfInt .f64 b) (a, b) := Pt.fl (inP_mk ha.1 ha.2 hb.1 hb.2)
  have hw : Pt (floatOfInt .f64 c) (floatOfInt .f64 d) (c, d) := Pt.fl (inP_mk hc.1 hc.2 hd.1 hd.2)
  have hd0 : decide ((60 : Int) < (n : Int)) = false := by simp; omega
  have Hl := Lib.hid hr.1
  obtain ⟨i0, hi, hz0, hz1, hz2⟩ := info_parts info_u8
  clear ha hb hc hd
  go_enter Try.func7, Try.ntmps7
  go_wp2_with (at_make; refine hold ?_)
  refine unhold (wpList_make_noughts rfl (.tmp 45) (.tmp 45) rfl Try.underlying26 hi hz0 hz1 hz2 rfl rfl (by omega) ?_)
  intro w1 ro hB
  have hsz := hB.size
  have H60 : Hid (Byt (List.replicate n (0 : Int))) := Lib.hid (fun x hx => by have := List.eq_of_mem_replicate hx; omega)
  have He := Lib.hid (apartP_chain l (List.replicate n 0) (p := (a, b)) (q := (c, d)) (p' := (a, b)) (q' := (c, d)) (by rw [Hl.out, List.length_replicate]) rfl)
  go_wp2_with fail
  refine (chain_one _ _ _ rfl (.inl hz) (hr.on hB hsz) hl (by omega)).mono ?_
  rintro e w2 ⟨⟨x2, y2, rfl, p2⟩, hb⟩
  replace ro := ro.on hb hb.size
  replace hB : Below w.heap.size w w2 := hB.trans (hb.mono hsz)
  clear hb hsz
  have hsz := hB.size
  go_wp2_with fail
  refine (chain_one _ _ _ rfl (.inl hw) (hr.on hB hsz) hl (by omega)).mono ?_
  rintro e w3 ⟨⟨x3, y3, rfl, p3⟩, hb⟩
  replace ro := ro.on hb hb.size
  replace hB : Below w.heap.size w w3 := hB.trans (hb.mono hsz)
  clear hb hsz
  have hsz := hB.size
  go_wp2_with fail
  refine (apart_call _ p2 p3).mono ?_
  rintro e w4 ⟨rfl, hb⟩
  replace ro := ro.on hb hb.size
  replace hB : Below w.heap.size w w4 := hB.trans (hb.mono hsz)
  clear hb hsz
  have hsz := hB.size
  go_wp2_with fail
  refine (chain_one _ _ _ rfl (.inl hz) ro H60.out (by omega)).mono ?_
  rintro e w5 ⟨⟨x5, y5, rfl, p5⟩, hb⟩
  replace ro := ro.on hb hb.size
  replace hB : Below w.heap.size w w5 := hB.trans (hb.mono hsz)
  clear hb hsz
  have hsz := hB.size
  go_wp2_with fail
  refine (chain_one _ _ _ rfl (.inl hw) ro H60.out (by omega)).mono ?_
  rintro e w6 ⟨⟨x6, y6, rfl, p6⟩, hb⟩
  replace hB : Below w.heap.size w w6 := hB.trans (hb.mono hsz)
  clear hb hsz ro
  have hsz := hB.size
  go_wp2_with fail
  refine (apart_call _ p5 p6).mono ?_
  rw [← He.out]
  rintro e w7 ⟨rfl, hb⟩
  replace hB : Below w.heap.size w w7 := hB.trans (hb.mono hsz)
  clear hb hsz
  have hsz := hB.size
  have q2 := fun w => eql_same2 (apartP (chainP (a, b) l) (chainP (c, d) l)).1 (apartP (chainP (a, b) l) (chainP (c, d) l)).2 w
  go_wp2_with fail
  refine (wakes_any _).mono ?_
  rintro e w' ⟨rfl, hbw⟩
  go_wp2_with fail
  go_ret
  exact ⟨rfl, hB.trans (hbw.mono hsz)⟩


set_option maxRecDepth 100000 in
set_option maxHeartbeats 1000000 in
theorem linear_out (a b c d : Int) (A : Option Addr) (n cp : Nat) (w : World) (h : ¬ Low a b c d ∨ 60 < n) :
    Calls Try.prog 7 #[.int .i64 a, .int .i64 b, .int .i64 c, .int .i64 d, .slice A n cp] w fun e w' => e = .returned (.bool true) ∧ Below w.heap.size w w' := by
  obtain ⟨m, hm, h2, h3⟩ := min4_run (P := Try.prog) a b c d
  obtain ⟨M, hM, h4, h5⟩ := max4_run (P := Try.prog) a b c d
  by_cases h0 : m < 0
  · clear h h2 h3 h4 h5 hM
    go_enter Try.func7, Try.ntmps7
    go_wp2_with fail
    refine (wakes_any w).mono ?_
    rintro e w' ⟨rfl, hb⟩
    go_wp2_with fail
    go_ret
    exact ⟨rfl, hb⟩
  · by_cases h1 : 10006 < M
    · clear h h2 h3 h4 h5
      go_enter Try.func7, Try.ntmps7
      go_wp2_with fail
      refine (wakes_any w).mono ?_
      rintro e w' ⟨rfl, hb⟩
      go_wp2_with fail
      go_ret
      exact ⟨rfl, hb⟩
    · have h6 : 60 < n := by
        rcases h with h | h
        · exact absurd (show Low a b c d by unfold Low; omega) h
        · exact h
      have hd : decide ((60 : Int) < (n : Int)) = true := by simp; omega
      clear h h2 h3 h4 h5
      go_enter Try.func7, Try.ntmps7
      go_wp2_with fail
      refine (wakes_any w).mono ?_
      rintro e w' ⟨rfl, hb⟩
      go_wp2_with fail
      go_ret
      exact ⟨rfl, hb⟩

theorem linear_any (a b c d : Int) (A : Option Addr) (n cp : Nat) (l : List Int) (w : World) (hr : Rd w w.heap.size .u8 A n l) (hl : Byt l) :
    Calls Try.prog 7 #[.int .i64 a, .int .i64 b, .int .i64 c, .int .i64 d, .slice A n cp] w fun e w' => e = .returned (.bool true) ∧ Below w.heap.size w w' := by
  rcases Classical.em (Low a b c d ∧ n ≤ 60) with h | h
  · exact linear_in a b c d A n cp l w h.1 hr hl h.2
  · refine linear_out a b c d A n cp w ?_
    rcases Classical.em (Low a b c d) with h1 | h1
    · exact .inr (Nat.lt_of_not_le fun h2 => h ⟨h1, h2⟩)
    · exact .inl h1

end Go.Proofs.Ythlngicfcmiedaa
