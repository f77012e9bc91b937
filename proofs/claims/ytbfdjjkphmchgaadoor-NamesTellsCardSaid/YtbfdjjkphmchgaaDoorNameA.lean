/-
  names.Name, moultref05.Name: their contracts.
-/
import Derived.Test.YtbfdjjkphmchgaaDoorName
import Derived.Sort.Grow
import Derived.Laws.StructEq
import Derived.Lib.AppendIntMem
namespace Go.Proofs.YtbfdjjkphmchgaaDoor
open Go.RowKit Go.Maps Go.Sort

theorem below_more {B n : Nat} {w w' : World} (h : Below B w w') (hn : n ≤ B) : Below n w w' := h.mono hn
theorem Pow.on {w w' : World} (h : Pow w) (hb : Below w.heap.size w w') : Pow w' := Lib.tabBelow_of_tabIs h w' hb
theorem below_grown (w : World) (k : Nat) (os : Array Obj) : Below w.heap.size w (grow (w.drewN k) os) := by
  refine ⟨rfl, rfl, rfl, ?_, fun j hj => ?_⟩
  · show w.heap.size ≤ (w.heap ++ os).size
    simp
  · show (w.heap ++ os)[j]? = w.heap[j]?
    rw [Array.getElem?_append_left hj]
/-- strconv.Itoa of a number of a name. -/
theorem itoa_any (n : Int) (hn : 0 ≤ n ∧ n ≤ 1073741824) (w : World) (hP : Pow w) : Calls Tryd.prog 26 #[.int .i64 n] w fun e w' => e = .returned (.string ⟨(Lib.itoa n).toArray⟩) ∧ Below w.heap.size w w' :=
  (Tryd.strconv_Itoa n (by omega) (by omega) w hP).mono fun e w' ⟨h1, k, os, h2⟩ => ⟨h1, h2 ▸ below_grown w k os⟩
theorem itoa_fmt {f : Int} (hf : f = 1 ∨ f = 2) : Lib.itoa f = Lib.decDigits f.toNat := by
  unfold Lib.itoa
  rw [if_neg (by omega)]

theorem fields_id : (Tryd.prog.fieldsOf 23).toList = [⟨"Kind", 5, 0, false, "", "", 0⟩, ⟨"Seq", 3, 1, false, "", "", 8⟩, ⟨"Fmt", 3, 2, false, "", "", 16⟩] := by kernel_rfl
/-- '==' of what names say. -/
theorem eql_id (k s f k' s' f' : Int) (w : World) : (binOp .eql 23 (.agg #[.int .u8 k, .int .i64 s, .int .i64 f]) (.agg #[.int .u8 k', .int .i64 s', .int .i64 f'])).run Tryd.prog w = .ok (.bool (decide (k = k' ∧ s = s' ∧ f = f'))) w := by
  rw [run_eql_struct, run_equalIn_agg w 9999 _ _ _ (by kernel_rfl) (by kernel_rfl), fields_id]
  by_cases h1 : k = k' <;> by_cases h2 : s = s' <;> by_cases h3 : f = f' <;> simp [Op.eqFields, part, go_sem, h1, h2, h3]
theorem eql_yes {k s f k' s' f' : Int} (h : k = k' ∧ s = s' ∧ f = f') (w : World) : (binOp .eql 23 (.agg #[.int .u8 k, .int .i64 s, .int .i64 f]) (.agg #[.int .u8 k', .int .i64 s', .int .i64 f'])).run Tryd.prog w = .ok (.bool true) w := (eql_id k s f k' s' f' w).trans (by rw [decide_eq_true h])
theorem eql_no {k s f k' s' f' : Int} (h : ¬ (k = k' ∧ s = s' ∧ f = f')) (w : World) : (binOp .eql 23 (.agg #[.int .u8 k, .int .i64 s, .int .i64 f]) (.agg #[.int .u8 k', .int .i64 s', .int .i64 f'])).run Tryd.prog w = .ok (.bool false) w := (eql_id k s f k' s' f' w).trans (by rw [decide_eq_false h])

/-- Box z holds it. -/
def BoxI (W : World) (z : Nat) (x : IdP) : Prop := W.heap[z]? = some (.cells #[.int .u8 x.kind, .int .i64 x.seq, .int .i64 x.fmt] 23 (0, 0))
theorem BoxI.cells {W : World} {z : Nat} {x : IdP} (h : BoxI W z x) : W.cell? ⟨z, 0, none⟩ = some (.int .u8 x.kind) ∧ W.cell? ⟨z, 1, none⟩ = some (.int .i64 x.seq) ∧ W.cell? ⟨z, 2, none⟩ = some (.int .i64 x.fmt) := by
  refine ⟨?_, ?_, ?_⟩ <;> (rw [cell_of_row _ _ _ _ _ _ h]; simp)
theorem BoxI.frozen {W : World} {z : Nat} {x : IdP} (h : BoxI W z x) : W.frozen? ⟨z, 0, none⟩ = false ∧ W.frozen? ⟨z, 1, none⟩ = false ∧ W.frozen? ⟨z, 2, none⟩ = false := by
  refine ⟨?_, ?_, ?_⟩
  all_goals simp [World.frozen?, show W.heap[z]? = _ from h]
theorem BoxI.lt {W : World} {z : Nat} {x : IdP} (h : BoxI W z x) : z < W.heap.size := (Array.getElem?_eq_some_iff.1 h).1
theorem BoxI.below {W W' : World} {z : Nat} {x : IdP} (h : BoxI W z x) (hb : Below W.heap.size W W') : BoxI W' z x := (hb.block z h.lt).trans h
theorem BoxI.new (w : World) (x : IdP) : BoxI (w.alloc (.cells #[.int .u8 x.kind, .int .i64 x.seq, .int .i64 x.fmt] 23)) w.heap.size x := World.alloc_heap_new w _

theorem nDigits_le (u : Nat) : Lib.nDigits u ≤ u + 1 := by
  induction u using Nat.strongRecOn with
  | _ u ih =>
    by_cases h : u < 10
    · rw [Lib.nDigits_small h]; omega
    · rw [Lib.nDigits_big h]
      have := ih (u / 10) (by omega)
      omega
theorem itoa_len {s : Int} {fn : Nat} (hs : 0 ≤ s ∧ s ≤ 1073741824) (hf : fn < 100) : (Lib.itoa s).length ≤ 1073741825 ∧ (Lib.decDigits fn).length ≤ 1000 := by
  unfold Lib.itoa
  rw [if_neg (by omega), Lib.decDigits_length, Lib.decDigits_length]
  have h1 := nDigits_le s.toNat
  have h2 := nDigits_le fn
  omega
/-- What Name answers. -/
def NameOut (w : World) (x : IdP) (e : Ending) (w' : World) : Prop := e = .returned (.tuple #[.string (nameP x), .int .i64 (errP x)]) ∧ Below w.heap.size w w'
theorem name_out {x : IdP} {s : ByteArray} {e : Int} (h1 : nameP x = s) (h2 : errP x = e) : Ending.returned (.tuple #[.string s, .int .i64 e]) = .returned (.tuple #[.string (nameP x), .int .i64 (errP x)]) := by rw [h1, h2]
theorem ba_ext {a b : ByteArray} (h : a.data = b.data) : a = b := by cases a; cases b; simp at h; rw [h]
/-- The text that is put together. -/
theorem name_txt {k s f : Int} {c : UInt8} (hk : k = 3 ∧ c = 115 ∨ k = 4 ∧ c = 112) (h : MayP ⟨k, s, f⟩) (hf : f = 1 ∨ f = 2) : nameP ⟨k, s, f⟩ = ⟨#[c]⟩ ++ ⟨(Lib.itoa s).toArray⟩ ++ ⟨#[46]⟩ ++ ⟨(Lib.decDigits f.toNat).toArray⟩ := by
  rw [(name_yes h).1, ← itoa_fmt hf]
  apply ba_ext
  unfold txtP
  dsimp only
  rw [if_neg (by omega), if_neg (by omega)]
  have e : (if k = 3 then (115 : UInt8) else 112) = c := by
    rcases hk with ⟨h1, h2⟩ | ⟨h1, h2⟩
    · rw [if_pos h1, h2]
    · rw [if_neg (by omega), h2]
  rw [e]
  simp [ByteArray.data_append]
theorem conv_115 (w : World) : (convert 5 9 (.int .u8 115)).run Tryd.prog w = .ok (.string ⟨#[115]⟩) w := by kernel_rfl
theorem conv_112 (w : World) : (convert 5 9 (.int .u8 112)).run Tryd.prog w = .ok (.string ⟨#[112]⟩) w := by kernel_rfl

set_option maxRecDepth 100000 in
set_option maxHeartbeats 4000000 in
theorem name_any (x : IdP) (w : World) (hP : Pow w) (hx : x.Ok) : Calls Tryd.prog 10 #[x.v] w (NameOut w x) := by
  obtain ⟨k, s, f⟩ := x
  have Hok := Lib.hid hx
  have HP := Lib.hid hP
  clear hx hP
  unfold IdP.v
  by_cases a1 : k = 1 ∧ s = 0 ∧ f = 0
  · have q1 := eql_yes a1
    have Hn := Lib.hid (show nameP ⟨k, s, f⟩ = ⟨#[77]⟩ ∧ errP ⟨k, s, f⟩ = 0 by obtain ⟨rfl, rfl, rfl⟩ := a1; exact ⟨rfl, rfl⟩)
    clear a1
    go_enter Tryd.func10, Tryd.ntmps10
    go_wp2_with fail
    refine bodyPost_ret (v := .tuple #[.string ⟨#[77]⟩, .int .i64 0]) (by simp [results, Tryd.results10, go_sem]; try rfl) rfl ⟨name_out Hn.out.1 Hn.out.2, below_al (below_d0 w) _⟩
  have q1 := eql_no a1
  by_cases a2 : k = 2 ∧ s = 0 ∧ f = 0
  · have q2 := eql_yes a2
    have Hn := Lib.hid (show nameP ⟨k, s, f⟩ = ⟨#[77, 46, 110, 101, 119]⟩ ∧ errP ⟨k, s, f⟩ = 0 by obtain ⟨rfl, rfl, rfl⟩ := a2; exact ⟨rfl, rfl⟩)
    clear a1 a2
    go_enter Tryd.func10, Tryd.ntmps10
    go_wp2_with fail
    refine bodyPost_ret (v := .tuple #[.string ⟨#[77, 46, 110, 101, 119]⟩, .int .i64 0]) (by simp [results, Tryd.results10, go_sem]; try rfl) rfl ⟨name_out Hn.out.1 Hn.out.2, below_al (below_d0 w) _⟩
  have q2 := eql_no a2
  have Ha := Lib.hid (⟨a1, a2⟩ : _ ∧ _)
  clear a1 a2
  go_enter Tryd.func10, Tryd.ntmps10
  go_upto_region 6 with fail
  obtain ⟨z, hz⟩ : ∃ z, z = w.heap.size := ⟨_, rfl⟩
  obtain ⟨w0, hw0⟩ : ∃ w0, w0 = w.alloc (.cells #[.int .u8 k, .int .i64 s, .int .i64 f] 23) := ⟨_, rfl⟩
  have hB0 : Below w.heap.size w w0 := by rw [hw0]; exact below_al (below_d0 w) _
  have b0 : BoxI w0 z ⟨k, s, f⟩ := by rw [hw0, hz]; exact BoxI.new w ⟨k, s, f⟩
  have hP0 := HP.out.on hB0
  rw [← hw0, ← hz]
  have X0 := Lib.hid (show ∀ W, Below w0.heap.size w0 W → BoxI W z ⟨k, s, f⟩ ∧ Pow W from fun W hW => ⟨b0.below hW, hP0.on hW⟩)
  have HB := Lib.hid hB0
  clear hw0 hz hB0 b0 hP0 q1 q2
  obtain ⟨L, hL⟩ : ∃ L : Int, L = (if k = 3 then 115 else if k = 4 then 112 else 0) := ⟨_, rfl⟩
  obtain ⟨y, hy⟩ : ∃ y, y = decide (k = 3 ∨ k = 4) := ⟨_, rfl⟩
  have HL := Lib.hid (⟨hL, hy⟩ : _ ∧ _)
  clear hL hy
  go_cut [4, 5] (fun s4 s5 wx => s4 = .int .u8 L ∧ s5 = .bool y ∧ Below w0.heap.size w0 wx)
  case first =>
    refine wp_region_held_drew (S := (fun W => Below w0.heap.size w0 W)) (by kernel_rfl) (below_dr (below_d0 _)) (fun hHeld => ?_)
    refine take_at (i := 1) (d := 15) (oi := ?o1) (v := ?v1) ?hi1 ?hd1 (by kernel_rfl) (by kernel_rfl) (by kernel_rfl) ?hw1 ?hy1 ?hq1 (by assumption) ?r1
    case hi1 => (simp only [List.getElem?_toArray, List.getElem?_cons_succ, List.getElem?_cons_zero]; rfl)
    case hd1 => rfl
    case hw1 => rfl
    case hy1 => ((intro w hSw; (try dsimp only at hSw); go_simp) <;> (with_reducible rfl))
    case hq1 => exact fun _ _ _ h => h
    simp only [List.set_cons_succ, List.set_cons_zero]
    refine take_at (i := 2) (d := 16) (oi := ?o2) (v := ?v2) ?hi2 ?hd2 (by kernel_rfl) (by kernel_rfl) (by kernel_rfl) ?hw2 ?hy2 ?hq2 (by assumption) ?r2
    case hi2 => (simp only [List.getElem?_toArray, List.getElem?_cons_succ, List.getElem?_cons_zero]; rfl)
    case hd2 => rfl
    case hw2 => rfl
    case hy2 => ((intro w hSw; (try dsimp only at hSw); obtain ⟨bz, _⟩ := X0.out _ hSw; obtain ⟨k0, k1, k2⟩ := bz.cells; go_simp) <;> (with_reducible rfl))
    case hq2 => exact fun _ _ _ h => h
    simp only [List.set_cons_succ, List.set_cons_zero]
    refine call_at (i := 0) (d := 14) (oi := ?o3) (f := ?f3) (args := ?a3) ?hi3 ?hd3 (by kernel_rfl) ?hw3 ?he3 ?hc3
    case hi3 => (simp only [List.getElem?_toArray, List.getElem?_cons_zero]; rfl)
    case hd3 => rfl
    case hw3 => rfl
    case he3 => (go_simp; constructor <;> with_reducible rfl)
    refine Calls.mono (letters_any _) ?_
    rintro r w1 ⟨⟨g, rfl, hl, hg⟩, hb1⟩
    have kb : Below w0.heap.size w0 w1 := hHeld.trans (hb1.mono hHeld.size)
    have hlk := let_look hl ⟨Hok.out.k0, Hok.out.k1⟩
    dsimp only at hlk
    rw [← HL.out.1, ← HL.out.2] at hlk
    refine ⟨_, rfl, kb, fun hHeld => ?_⟩
    simp only [List.set_cons_succ, List.set_cons_zero]
    refine wpAnyH_ready (rs := [3]) (by kernel_rfl) (by simp) ?_
    refine br_val (i := 3) (d := 17) (oi := ?o4) (v := (.tuple #[.int .u8 L, .bool y])) (w' := w1) ?hi4 ?hd4 ?hw4 ?he4 hHeld ?hc4
    case hi4 => (simp only [List.getElem?_toArray, List.getElem?_cons_succ, List.getElem?_cons_zero]; rfl)
    case hd4 => rfl
    case hw4 => rfl
    case he4 => go_simp
    intro hHeld
    simp only [List.set_cons_succ, List.set_cons_zero]
    refine take_at (i := 4) (d := 13) (oi := ?o5) (v := ?v5) ?hi5 ?hd5 (by kernel_rfl) (by kernel_rfl) (by kernel_rfl) ?hw5 ?hy5 ?hq5 (by assumption) ?r5
    case hi5 => (simp only [List.getElem?_toArray, List.getElem?_cons_succ, List.getElem?_cons_zero]; rfl)
    case hd5 => rfl
    case hw5 => rfl
    case hy5 => ((intro w hSw; (try dsimp only at hSw); go_simp) <;> (with_reducible rfl))
    case hq5 => exact fun _ _ _ h => h
    simp only [List.set_cons_succ, List.set_cons_zero]
    refine take_at (i := 5) (d := 18) (oi := ?o6) (v := ?v6) ?hi6 ?hd6 (by kernel_rfl) (by kernel_rfl) (by kernel_rfl) ?hw6 ?hy6 ?hq6 (by assumption) ?r6
    case hi6 => (simp only [List.getElem?_toArray, List.getElem?_cons_succ, List.getElem?_cons_zero]; rfl)
    case hd6 => rfl
    case hw6 => rfl
    case hy6 => ((intro w hSw; (try dsimp only at hSw); go_simp) <;> (with_reducible rfl))
    case hq6 => exact fun _ _ _ h => h
    simp only [List.set_cons_succ, List.set_cons_zero]
    refine take_at (i := 6) (d := 19) (oi := ?o7) (v := ?v7) ?hi7 ?hd7 (by kernel_rfl) (by kernel_rfl) (by kernel_rfl) ?hw7 ?hy7 ?hq7 (by assumption) ?r7
    case hi7 => (simp only [List.getElem?_toArray, List.getElem?_cons_succ, List.getElem?_cons_zero]; rfl)
    case hd7 => rfl
    case hw7 => rfl
    case hy7 => ((intro w hSw; (try dsimp only at hSw); go_simp) <;> (with_reducible rfl))
    case hq7 => exact fun _ _ _ h => h
    simp only [List.set_cons_succ, List.set_cons_zero]
    refine take_at (i := 7) (d := 4) (oi := ?o8) (v := ?v8) ?hi8 ?hd8 (by kernel_rfl) (by kernel_rfl) (by kernel_rfl) ?hw8 ?hy8 ?hq8 (by assumption) ?r8
    case hi8 => (simp only [List.getElem?_toArray, List.getElem?_cons_succ, List.getElem?_cons_zero]; rfl)
    case hd8 => rfl
    case hw8 => rfl
    case hy8 => ((intro w hSw; (try dsimp only at hSw); go_simp) <;> (with_reducible rfl))
    case hq8 => exact fun _ _ _ h => h
    simp only [List.set_cons_succ, List.set_cons_zero]
    refine take_at (i := 8) (d := 5) (oi := ?o9) (v := ?v9) ?hi9 ?hd9 (by kernel_rfl) (by kernel_rfl) (by kernel_rfl) ?hw9 ?hy9 ?hq9 (by assumption) ?r9
    case hi9 => (simp only [List.getElem?_toArray, List.getElem?_cons_succ, List.getElem?_cons_zero]; rfl)
    case hd9 => rfl
    case hw9 => rfl
    case hy9 => ((intro w hSw; (try dsimp only at hSw); go_simp) <;> (with_reducible rfl))
    case hq9 => exact fun _ _ _ h => h
    simp only [List.set_cons_succ, List.set_cons_zero]
    refine wpAnyH_done (by kernel_rfl) ?_ _
    go_wp2_with fail
    go_meet
    exact ⟨rfl, rfl, hHeld⟩
  case rest =>
    obtain ⟨rfl, rfl, hb1⟩ := hcut
    obtain ⟨w1, rfl⟩ : ∃ w1, w1 = wc := ⟨_, rfl⟩
    obtain ⟨b1, hP1⟩ := X0.out _ hb1
    have hB1 := below_on HB.out hb1
    have X1 := Lib.hid (show ∀ W, Below w1.heap.size w1 W → BoxI W z ⟨k, s, f⟩ ∧ Pow W from fun W hW => ⟨b1.below hW, hP1.on hW⟩)
    have HB1 := Lib.hid hB1
    obtain ⟨c0, c1, c2⟩ := b1.cells
    dsimp only at c0 c1 c2
    clear b1 hP1 hB1 hb1 X0 HB
    by_cases hk : ¬ (k = 3 ∨ k = 4)
    · have hm : ¬ MayP ⟨k, s, f⟩ := fun h => by
        rcases h with ⟨h1, h2, h3⟩ | ⟨h1, _⟩
        · rcases h1 with h1 | h1
          · exact Ha.out.1 ⟨h1, h2, h3⟩
          · exact Ha.out.2 ⟨h1, h2, h3⟩
        · exact hk h1
      have hy : y = false := by rw [HL.out.2, decide_eq_false hk]
      subst hy
      have Hm := Lib.hid hm
      clear hm hk
      go_wp2_with fail
      refine bodyPost_ret (v := .tuple #[.string ⟨#[]⟩, .int .i64 2]) (by simp [results, Tryd.results10, go_sem]; try rfl) rfl ⟨name_out (name_no Hm.out).1 (name_no Hm.out).2, HB1.out⟩
    replace hk := Classical.not_not.1 hk
    have hy : y = true := by rw [HL.out.2, decide_eq_true hk]
    subst hy
    have hm0 : MayP ⟨k, s, f⟩ ↔ 1 ≤ s ∧ s ≤ 1073741824 ∧ (f = 1 ∨ f = 2) := by
      unfold MayP
      dsimp only
      omega
    by_cases h1 : s < 1
    · have t1 : decide (s < 1) = true := by simpa using h1
      have Hm := Lib.hid (show ¬ MayP ⟨k, s, f⟩ from fun h => by have := hm0.1 h; omega)
      clear hm0 hk h1
      go_wp2_with fail
      refine bodyPost_ret (v := .tuple #[.string ⟨#[]⟩, .int .i64 2]) (by simp [results, Tryd.results10, go_sem]; try rfl) rfl ⟨name_out (name_no Hm.out).1 (name_no Hm.out).2, HB1.out⟩
    have t1 : decide (s < 1) = false := by simpa using h1
    by_cases h2 : (1073741824 : Int) < s
    · have t2 : decide ((1073741824 : Int) < s) = true := by simpa using h2
      have Hm := Lib.hid (show ¬ MayP ⟨k, s, f⟩ from fun h => by have := hm0.1 h; omega)
      clear hm0 hk h1 h2
      go_wp2_with fail
      refine bodyPost_ret (v := .tuple #[.string ⟨#[]⟩, .int .i64 2]) (by simp [results, Tryd.results10, go_sem]; try rfl) rfl ⟨name_out (name_no Hm.out).1 (name_no Hm.out).2, HB1.out⟩
    have t2 : decide ((1073741824 : Int) < s) = false := by simpa using h2
    by_cases hf : ¬ (f = 1 ∨ f = 2)
    · have t3 : (f != 1) = true := by simp; omega
      have t4 : (f != 2) = true := by simp; omega
      have Hm := Lib.hid (show ¬ MayP ⟨k, s, f⟩ from fun h => by have := hm0.1 h; omega)
      clear hm0 hk h1 h2 hf
      go_wp2_with fail
      refine bodyPost_ret (v := .tuple #[.string ⟨#[]⟩, .int .i64 2]) (by simp [results, Tryd.results10, go_sem]; try rfl) rfl ⟨name_out (name_no Hm.out).1 (name_no Hm.out).2, HB1.out⟩
    replace hf := Classical.not_not.1 hf
    have Hm := Lib.hid (hm0.2 ⟨by omega, by omega, hf⟩)
    have Hs := Lib.hid (show 0 ≤ s ∧ s ≤ 1073741824 by omega)
    have Hf := Lib.hid hf
    obtain ⟨fn, hfn⟩ : ∃ fn : Nat, f = (fn : Int) := ⟨f.toNat, by omega⟩
    subst hfn
    have Hfn := Lib.hid (show fn < 100 by omega)
    have Hlen := Lib.hid (itoa_len Hs.out Hfn.out)
    have t3 : ((fn : Int) != 1 && (fn : Int) != 2) = false := by rcases hf with h | h <;> simp [h]
    have Hk := Lib.hid hk
    clear hm0 h1 h2 hk
    have tail : ∀ (c : UInt8) (Lc : Int), L = Lc → (k = 3 ∧ c = 115 ∨ k = 4 ∧ c = 112) → (∀ w, (convert 5 9 (.int .u8 Lc)).run Tryd.prog w = .ok (.string ⟨#[c]⟩) w) → True := fun _ _ _ _ _ => trivial
    clear tail
    have hc : ∃ c : UInt8, (k = 3 ∧ c = 115 ∨ k = 4 ∧ c = 112) ∧ ∀ w, (convert 5 9 (.int .u8 L)).run Tryd.prog w = .ok (.string ⟨#[c]⟩) w := by
      rcases Hk.out with h | h
      · exact ⟨115, .inl ⟨h, rfl⟩, fun w => by rw [HL.out.1, if_pos h]; exact conv_115 w⟩
      · exact ⟨112, .inr ⟨h, rfl⟩, fun w => by rw [HL.out.1, if_neg (by omega), if_pos h]; exact conv_112 w⟩
    obtain ⟨c, hc1, q1⟩ := hc
    have Hc := Lib.hid (name_txt hc1 Hm.out Hf.out)
    clear hc1
    have t5 : ((fn : Int) != 1) = false ∨ ((fn : Int) != 1) = true ∧ ((fn : Int) != 2) = false := by
      rcases hf with h | h
      · exact .inl (by simp [h])
      · exact .inr ⟨by simp [h], by simp [h]⟩
    clear t3 hf
    rcases t5 with t5 | ⟨t5, t6⟩
    · go_upto_region 9 with fail
      refine wp_region_held_drew (S := (fun W => Below w1.heap.size w1 W)) (by kernel_rfl) (below_dr (below_d0 _)) (fun hHeld => ?_)
      refine take_at (i := 0) (d := 42) (oi := ?o10) (v := ?v10) ?hi10 ?hd10 (by kernel_rfl) (by kernel_rfl) (by kernel_rfl) ?hw10 ?hy10 ?hq10 (by assumption) ?r10
      case hi10 => (simp only [List.getElem?_toArray, List.getElem?_cons_zero]; rfl)
      case hd10 => rfl
      case hw10 => rfl
      case hy10 => ((intro w hSw; (try dsimp only at hSw); go_simp) <;> (with_reducible rfl))
      case hq10 => exact fun _ _ _ h => h
      simp only [List.set_cons_succ, List.set_cons_zero]
      refine take_at (i := 1) (d := 43) (oi := ?o11) (v := ?v11) ?hi11 ?hd11 (by kernel_rfl) (by kernel_rfl) (by kernel_rfl) ?hw11 ?hy11 ?hq11 (by assumption) ?r11
      case hi11 => (simp only [List.getElem?_toArray, List.getElem?_cons_succ, List.getElem?_cons_zero]; rfl)
      case hd11 => rfl
      case hw11 => rfl
      case hy11 => ((intro w hSw; (try dsimp only at hSw); go_simp) <;> (with_reducible rfl))
      case hq11 => exact fun _ _ _ h => h
      simp only [List.set_cons_succ, List.set_cons_zero]
      refine take_at (i := 2) (d := 44) (oi := ?o12) (v := ?v12) ?hi12 ?hd12 (by kernel_rfl) (by kernel_rfl) (by kernel_rfl) ?hw12 ?hy12 ?hq12 (by assumption) ?r12
      case hi12 => (simp only [List.getElem?_toArray, List.getElem?_cons_succ, List.getElem?_cons_zero]; rfl)
      case hd12 => rfl
      case hw12 => rfl
      case hy12 => ((intro w hSw; (try dsimp only at hSw); go_simp) <;> (with_reducible rfl))
      case hq12 => exact fun _ _ _ h => h
      simp only [List.set_cons_succ, List.set_cons_zero]
      refine take_at (i := 3) (d := 45) (oi := ?o13) (v := ?v13) ?hi13 ?hd13 (by kernel_rfl) (by kernel_rfl) (by kernel_rfl) ?hw13 ?hy13 ?hq13 (by assumption) ?r13
      case hi13 => (simp only [List.getElem?_toArray, List.getElem?_cons_succ, List.getElem?_cons_zero]; rfl)
      case hd13 => rfl
      case hw13 => rfl
      case hy13 => ((intro w hSw; (try dsimp only at hSw); obtain ⟨bz, _⟩ := X1.out _ hSw; obtain ⟨k0, k1, k2⟩ := bz.cells; go_simp) <;> (with_reducible rfl))
      case hq13 => exact fun _ _ _ h => h
      simp only [List.set_cons_succ, List.set_cons_zero]
      refine take_at (i := 7) (d := 49) (oi := ?o14) (v := ?v14) ?hi14 ?hd14 (by kernel_rfl) (by kernel_rfl) (by kernel_rfl) ?hw14 ?hy14 ?hq14 (by assumption) ?r14
      case hi14 => (simp only [List.getElem?_toArray, List.getElem?_cons_succ, List.getElem?_cons_zero]; rfl)
      case hd14 => rfl
      case hw14 => rfl
      case hy14 => ((intro w hSw; (try dsimp only at hSw); go_simp) <;> (with_reducible rfl))
      case hq14 => exact fun _ _ _ h => h
      simp only [List.set_cons_succ, List.set_cons_zero]
      refine take_at (i := 8) (d := 50) (oi := ?o15) (v := ?v15) ?hi15 ?hd15 (by kernel_rfl) (by kernel_rfl) (by kernel_rfl) ?hw15 ?hy15 ?hq15 (by assumption) ?r15
      case hi15 => (simp only [List.getElem?_toArray, List.getElem?_cons_succ, List.getElem?_cons_zero]; rfl)
      case hd15 => rfl
      case hw15 => rfl
      case hy15 => ((intro w hSw; (try dsimp only at hSw); obtain ⟨bz, _⟩ := X1.out _ hSw; obtain ⟨k0, k1, k2⟩ := bz.cells; go_simp) <;> (with_reducible rfl))
      case hq15 => exact fun _ _ _ h => h
      simp only [List.set_cons_succ, List.set_cons_zero]
      refine call_at (i := 4) (d := 46) (oi := ?o16) (f := ?f16) (args := ?a16) ?hi16 ?hd16 (by kernel_rfl) ?hw16 ?he16 ?hc16
      case hi16 => (simp only [List.getElem?_toArray, List.getElem?_cons_succ, List.getElem?_cons_zero]; rfl)
      case hd16 => rfl
      case hw16 => rfl
      case he16 => (go_simp; constructor <;> with_reducible rfl)
      refine Calls.mono (itoa_any s Hs.out _ (X1.out _ hHeld).2) ?_
      rintro r w2 ⟨rfl, hb2⟩
      have kb : Below w1.heap.size w1 w2 := hHeld.trans (hb2.mono hHeld.size)
      refine ⟨_, rfl, kb, fun hHeld => ?_⟩
      simp only [List.set_cons_succ, List.set_cons_zero]
      refine take_at (i := 5) (d := 47) (oi := ?o17) (v := ?v17) ?hi17 ?hd17 (by kernel_rfl) (by kernel_rfl) (by kernel_rfl) ?hw17 ?hy17 ?hq17 (by assumption) ?r17
      case hi17 => (simp only [List.getElem?_toArray, List.getElem?_cons_succ, List.getElem?_cons_zero]; rfl)
      case hd17 => rfl
      case hw17 => rfl
      case hy17 => ((intro w hSw; (try dsimp only at hSw); go_simp; rw [if_neg (by have := Hlen.out; omega)]) <;> (with_reducible rfl))
      case hq17 => exact fun _ _ _ h => h
      simp only [List.set_cons_succ, List.set_cons_zero]
      refine take_at (i := 6) (d := 48) (oi := ?o18) (v := ?v18) ?hi18 ?hd18 (by kernel_rfl) (by kernel_rfl) (by kernel_rfl) ?hw18 ?hy18 ?hq18 (by assumption) ?r18
      case hi18 => (simp only [List.getElem?_toArray, List.getElem?_cons_succ, List.getElem?_cons_zero]; rfl)
      case hd18 => rfl
      case hw18 => rfl
      case hy18 => ((intro w hSw; (try dsimp only at hSw); go_simp; rw [if_neg (by have := Hlen.out; omega)]) <;> (with_reducible rfl))
      case hq18 => exact fun _ _ _ h => h
      simp only [List.set_cons_succ, List.set_cons_zero]
      refine call_at (i := 9) (d := 51) (oi := ?o19) (f := ?f19) (args := ?a19) ?hi19 ?hd19 (by kernel_rfl) ?hw19 ?he19 ?hc19
      case hi19 => (simp only [List.getElem?_toArray, List.getElem?_cons_succ, List.getElem?_cons_zero]; rfl)
      case hd19 => rfl
      case hw19 => rfl
      case he19 => (go_simp; constructor <;> with_reducible rfl)
      refine Calls.mono (Tryd.strconv_Itoa_small fn Hfn.out _) ?_
      rintro r w3 ⟨rfl, rfl⟩
      refine ⟨_, rfl, hHeld, fun hHeld => ?_⟩
      simp only [List.set_cons_succ, List.set_cons_zero]
      refine take_at (i := 10) (d := 52) (oi := ?o20) (v := ?v20) ?hi20 ?hd20 (by kernel_rfl) (by kernel_rfl) (by kernel_rfl) ?hw20 ?hy20 ?hq20 (by assumption) ?r20
      case hi20 => (simp only [List.getElem?_toArray, List.getElem?_cons_succ, List.getElem?_cons_zero]; rfl)
      case hd20 => rfl
      case hw20 => rfl
      case hy20 => ((intro w hSw; (try dsimp only at hSw); go_simp; rw [if_neg (by have := Hlen.out; omega)]) <;> (with_reducible rfl))
      case hq20 => exact fun _ _ _ h => h
      simp only [List.set_cons_succ, List.set_cons_zero]
      refine take_at (i := 11) (d := 2) (oi := ?o21) (v := ?v21) ?hi21 ?hd21 (by kernel_rfl) (by kernel_rfl) (by kernel_rfl) ?hw21 ?hy21 ?hq21 (by assumption) ?r21
      case hi21 => (simp only [List.getElem?_toArray, List.getElem?_cons_succ, List.getElem?_cons_zero]; rfl)
      case hd21 => rfl
      case hw21 => rfl
      case hy21 => ((intro w hSw; (try dsimp only at hSw); go_simp) <;> (with_reducible rfl))
      case hq21 => exact fun _ _ _ h => h
      simp only [List.set_cons_succ, List.set_cons_zero]
      refine take_at (i := 12) (d := 3) (oi := ?o22) (v := ?v22) ?hi22 ?hd22 (by kernel_rfl) (by kernel_rfl) (by kernel_rfl) ?hw22 ?hy22 ?hq22 (by assumption) ?r22
      case hi22 => (simp only [List.getElem?_toArray, List.getElem?_cons_succ, List.getElem?_cons_zero]; rfl)
      case hd22 => rfl
      case hw22 => rfl
      case hy22 => ((intro w hSw; (try dsimp only at hSw); go_simp) <;> (with_reducible rfl))
      case hq22 => exact fun _ _ _ h => h
      simp only [List.set_cons_succ, List.set_cons_zero]
      refine wpAnyH_done (by kernel_rfl) ?_ _
      go_wp2_with fail
      refine bodyPost_ret (v := .tuple #[.string (⟨#[c]⟩ ++ ⟨(Lib.itoa s).toArray⟩ ++ ⟨#[46]⟩ ++ ⟨(Lib.decDigits fn).toArray⟩), .int .i64 0]) (by simp [results, Tryd.results10, go_sem]; try rfl) rfl ⟨name_out Hc.out (name_yes Hm.out).2, below_on HB1.out hHeld⟩
    · go_upto_region 9 with fail
      refine wp_region_held_drew (S := (fun W => Below w1.heap.size w1 W)) (by kernel_rfl) (below_dr (below_d0 _)) (fun hHeld => ?_)
      refine take_at (i := 0) (d := 42) (oi := ?o23) (v := ?v23) ?hi23 ?hd23 (by kernel_rfl) (by kernel_rfl) (by kernel_rfl) ?hw23 ?hy23 ?hq23 (by assumption) ?r23
      case hi23 => (simp only [List.getElem?_toArray, List.getElem?_cons_zero]; rfl)
      case hd23 => rfl
      case hw23 => rfl
      case hy23 => ((intro w hSw; (try dsimp only at hSw); go_simp) <;> (with_reducible rfl))
      case hq23 => exact fun _ _ _ h => h
      simp only [List.set_cons_succ, List.set_cons_zero]
      refine take_at (i := 1) (d := 43) (oi := ?o24) (v := ?v24) ?hi24 ?hd24 (by kernel_rfl) (by kernel_rfl) (by kernel_rfl) ?hw24 ?hy24 ?hq24 (by assumption) ?r24
      case hi24 => (simp only [List.getElem?_toArray, List.getElem?_cons_succ, List.getElem?_cons_zero]; rfl)
      case hd24 => rfl
      case hw24 => rfl
      case hy24 => ((intro w hSw; (try dsimp only at hSw); go_simp) <;> (with_reducible rfl))
      case hq24 => exact fun _ _ _ h => h
      simp only [List.set_cons_succ, List.set_cons_zero]
      refine take_at (i := 2) (d := 44) (oi := ?o25) (v := ?v25) ?hi25 ?hd25 (by kernel_rfl) (by kernel_rfl) (by kernel_rfl) ?hw25 ?hy25 ?hq25 (by assumption) ?r25
      case hi25 => (simp only [List.getElem?_toArray, List.getElem?_cons_succ, List.getElem?_cons_zero]; rfl)
      case hd25 => rfl
      case hw25 => rfl
      case hy25 => ((intro w hSw; (try dsimp only at hSw); go_simp) <;> (with_reducible rfl))
      case hq25 => exact fun _ _ _ h => h
      simp only [List.set_cons_succ, List.set_cons_zero]
      refine take_at (i := 3) (d := 45) (oi := ?o26) (v := ?v26) ?hi26 ?hd26 (by kernel_rfl) (by kernel_rfl) (by kernel_rfl) ?hw26 ?hy26 ?hq26 (by assumption) ?r26
      case hi26 => (simp only [List.getElem?_toArray, List.getElem?_cons_succ, List.getElem?_cons_zero]; rfl)
      case hd26 => rfl
      case hw26 => rfl
      case hy26 => ((intro w hSw; (try dsimp only at hSw); obtain ⟨bz, _⟩ := X1.out _ hSw; obtain ⟨k0, k1, k2⟩ := bz.cells; go_simp) <;> (with_reducible rfl))
      case hq26 => exact fun _ _ _ h => h
      simp only [List.set_cons_succ, List.set_cons_zero]
      refine take_at (i := 7) (d := 49) (oi := ?o27) (v := ?v27) ?hi27 ?hd27 (by kernel_rfl) (by kernel_rfl) (by kernel_rfl) ?hw27 ?hy27 ?hq27 (by assumption) ?r27
      case hi27 => (simp only [List.getElem?_toArray, List.getElem?_cons_succ, List.getElem?_cons_zero]; rfl)
      case hd27 => rfl
      case hw27 => rfl
      case hy27 => ((intro w hSw; (try dsimp only at hSw); go_simp) <;> (with_reducible rfl))
      case hq27 => exact fun _ _ _ h => h
      simp only [List.set_cons_succ, List.set_cons_zero]
      refine take_at (i := 8) (d := 50) (oi := ?o28) (v := ?v28) ?hi28 ?hd28 (by kernel_rfl) (by kernel_rfl) (by kernel_rfl) ?hw28 ?hy28 ?hq28 (by assumption) ?r28
      case hi28 => (simp only [List.getElem?_toArray, List.getElem?_cons_succ, List.getElem?_cons_zero]; rfl)
      case hd28 => rfl
      case hw28 => rfl
      case hy28 => ((intro w hSw; (try dsimp only at hSw); obtain ⟨bz, _⟩ := X1.out _ hSw; obtain ⟨k0, k1, k2⟩ := bz.cells; go_simp) <;> (with_reducible rfl))
      case hq28 => exact fun _ _ _ h => h
      simp only [List.set_cons_succ, List.set_cons_zero]
      refine call_at (i := 4) (d := 46) (oi := ?o29) (f := ?f29) (args := ?a29) ?hi29 ?hd29 (by kernel_rfl) ?hw29 ?he29 ?hc29
      case hi29 => (simp only [List.getElem?_toArray, List.getElem?_cons_succ, List.getElem?_cons_zero]; rfl)
      case hd29 => rfl
      case hw29 => rfl
      case he29 => (go_simp; constructor <;> with_reducible rfl)
      refine Calls.mono (itoa_any s Hs.out _ (X1.out _ hHeld).2) ?_
      rintro r w2 ⟨rfl, hb2⟩
      have kb : Below w1.heap.size w1 w2 := hHeld.trans (hb2.mono hHeld.size)
      refine ⟨_, rfl, kb, fun hHeld => ?_⟩
      simp only [List.set_cons_succ, List.set_cons_zero]
      refine take_at (i := 5) (d := 47) (oi := ?o30) (v := ?v30) ?hi30 ?hd30 (by kernel_rfl) (by kernel_rfl) (by kernel_rfl) ?hw30 ?hy30 ?hq30 (by assumption) ?r30
      case hi30 => (simp only [List.getElem?_toArray, List.getElem?_cons_succ, List.getElem?_cons_zero]; rfl)
      case hd30 => rfl
      case hw30 => rfl
      case hy30 => ((intro w hSw; (try dsimp only at hSw); go_simp; rw [if_neg (by have := Hlen.out; omega)]) <;> (with_reducible rfl))
      case hq30 => exact fun _ _ _ h => h
      simp only [List.set_cons_succ, List.set_cons_zero]
      refine take_at (i := 6) (d := 48) (oi := ?o31) (v := ?v31) ?hi31 ?hd31 (by kernel_rfl) (by kernel_rfl) (by kernel_rfl) ?hw31 ?hy31 ?hq31 (by assumption) ?r31
      case hi31 => (simp only [List.getElem?_toArray, List.getElem?_cons_succ, List.getElem?_cons_zero]; rfl)
      case hd31 => rfl
      case hw31 => rfl
      case hy31 => ((intro w hSw; (try dsimp only at hSw); go_simp; rw [if_neg (by have := Hlen.out; omega)]) <;> (with_reducible rfl))
      case hq31 => exact fun _ _ _ h => h
      simp only [List.set_cons_succ, List.set_cons_zero]
      refine call_at (i := 9) (d := 51) (oi := ?o32) (f := ?f32) (args := ?a32) ?hi32 ?hd32 (by kernel_rfl) ?hw32 ?he32 ?hc32
      case hi32 => (simp only [List.getElem?_toArray, List.getElem?_cons_succ, List.getElem?_cons_zero]; rfl)
      case hd32 => rfl
      case hw32 => rfl
      case he32 => (go_simp; constructor <;> with_reducible rfl)
      refine Calls.mono (Tryd.strconv_Itoa_small fn Hfn.out _) ?_
      rintro r w3 ⟨rfl, rfl⟩
      refine ⟨_, rfl, hHeld, fun hHeld => ?_⟩
      simp only [List.set_cons_succ, List.set_cons_zero]
      refine take_at (i := 10) (d := 52) (oi := ?o33) (v := ?v33) ?hi33 ?hd33 (by kernel_rfl) (by kernel_rfl) (by kernel_rfl) ?hw33 ?hy33 ?hq33 (by assumption) ?r33
      case hi33 => (simp only [List.getElem?_toArray, List.getElem?_cons_succ, List.getElem?_cons_zero]; rfl)
      case hd33 => rfl
      case hw33 => rfl
      case hy33 => ((intro w hSw; (try dsimp only at hSw); go_simp; rw [if_neg (by have := Hlen.out; omega)]) <;> (with_reducible rfl))
      case hq33 => exact fun _ _ _ h => h
      simp only [List.set_cons_succ, List.set_cons_zero]
      refine take_at (i := 11) (d := 2) (oi := ?o34) (v := ?v34) ?hi34 ?hd34 (by kernel_rfl) (by kernel_rfl) (by kernel_rfl) ?hw34 ?hy34 ?hq34 (by assumption) ?r34
      case hi34 => (simp only [List.getElem?_toArray, List.getElem?_cons_succ, List.getElem?_cons_zero]; rfl)
      case hd34 => rfl
      case hw34 => rfl
      case hy34 => ((intro w hSw; (try dsimp only at hSw); go_simp) <;> (with_reducible rfl))
      case hq34 => exact fun _ _ _ h => h
      simp only [List.set_cons_succ, List.set_cons_zero]
      refine take_at (i := 12) (d := 3) (oi := ?o35) (v := ?v35) ?hi35 ?hd35 (by kernel_rfl) (by kernel_rfl) (by kernel_rfl) ?hw35 ?hy35 ?hq35 (by assumption) ?r35
      case hi35 => (simp only [List.getElem?_toArray, List.getElem?_cons_succ, List.getElem?_cons_zero]; rfl)
      case hd35 => rfl
      case hw35 => rfl
      case hy35 => ((intro w hSw; (try dsimp only at hSw); go_simp) <;> (with_reducible rfl))
      case hq35 => exact fun _ _ _ h => h
      simp only [List.set_cons_succ, List.set_cons_zero]
      refine wpAnyH_done (by kernel_rfl) ?_ _
      go_wp2_with fail
      refine bodyPost_ret (v := .tuple #[.string (⟨#[c]⟩ ++ ⟨(Lib.itoa s).toArray⟩ ++ ⟨#[46]⟩ ++ ⟨(Lib.decDigits fn).toArray⟩), .int .i64 0]) (by simp [results, Tryd.results10, go_sem]; try rfl) rfl ⟨name_out Hc.out (name_yes Hm.out).2, below_on HB1.out hHeld⟩
set_option maxRecDepth 100000 in
set_option maxHeartbeats 4000000 in
theorem rname_any (x : IdP) (w : World) (hP : Pow w) : Calls Tryd.prog 11 #[x.v] w (NameOut w x) := by
  obtain ⟨k, s, f⟩ := x
  have HP := Lib.hid hP
  clear hP
  unfold IdP.v
  go_enter Tryd.func11, Tryd.ntmps11
  go_wp2_with fail
  obtain ⟨z, hz⟩ : ∃ z, z = w.heap.size := ⟨_, rfl⟩
  obtain ⟨w0, hw0⟩ : ∃ w0, w0 = w.alloc (.cells #[.int .u8 k, .int .i64 s, .int .i64 f] 23) := ⟨_, rfl⟩
  have hB0 : Below w.heap.size w w0 := by rw [hw0]; exact below_al (below_d0 w) _
  have b0 : BoxI w0 z ⟨k, s, f⟩ := by rw [hw0, hz]; exact BoxI.new w ⟨k, s, f⟩
  have hP0 := HP.out.on hB0
  rw [← hw0, ← hz]
  clear hw0 hz
  refine (may_any ⟨k, s, f⟩ w0).mono ?_
  rintro r w1 ⟨rfl, hb1⟩
  have b1 := b0.below hb1
  have hP1 := hP0.on hb1
  have hB1 := below_on hB0 hb1
  have X1 := Lib.hid (show ∀ W, Below w1.heap.size w1 W → BoxI W z ⟨k, s, f⟩ ∧ Pow W from fun W hW => ⟨b1.below hW, hP1.on hW⟩)
  have HB1 := Lib.hid hB1
  obtain ⟨c0, c1, c2⟩ := b1.cells
  dsimp only at c0 c1 c2
  clear b1 hP1 hB1 hb1 b0 hP0 hB0
  by_cases hm : MayP ⟨k, s, f⟩
  · rw [decide_eq_true hm]
    have Hm := Lib.hid hm
    rcases hm with ⟨hk, hs, hf⟩ | ⟨hk, h1, h2, hf⟩
    · dsimp only at hk hs hf
      subst hs hf
      rcases hk with rfl | rfl
      · go_wp2_with fail
        refine bodyPost_ret (v := .tuple #[.string ⟨#[77]⟩, .int .i64 0]) (by simp [results, Tryd.results11, go_sem]; try rfl) rfl ⟨name_out rfl rfl, HB1.out⟩
      · go_wp2_with fail
        refine bodyPost_ret (v := .tuple #[.string ⟨#[77, 46, 110, 101, 119]⟩, .int .i64 0]) (by simp [results, Tryd.results11, go_sem]; try rfl) rfl ⟨name_out rfl rfl, HB1.out⟩
    · dsimp only at hk h1 h2 hf
      have Hs := Lib.hid (show 0 ≤ s ∧ s ≤ 1073741824 by omega)
      have Hf := Lib.hid hf
      obtain ⟨fn, hfn⟩ : ∃ fn : Nat, f = (fn : Int) := ⟨f.toNat, by omega⟩
      subst hfn
      have Hfn := Lib.hid (show fn < 100 by omega)
      have Hlen := Lib.hid (itoa_len Hs.out Hfn.out)
      clear hf h1 h2
      rcases hk with rfl | rfl
      · have Hc := Lib.hid (name_txt (c := 115) (.inl ⟨rfl, rfl⟩) Hm.out Hf.out)
        go_upto_region 9 with fail
        refine wp_region_held_drew (S := (fun W => Below w1.heap.size w1 W)) (by kernel_rfl) (below_dr (below_d0 _)) (fun hHeld => ?_)
        refine take_at (i := 0) (d := 15) (oi := ?o36) (v := ?v36) ?hi36 ?hd36 (by kernel_rfl) (by kernel_rfl) (by kernel_rfl) ?hw36 ?hy36 ?hq36 (by assumption) ?r36
        case hi36 => (simp only [List.getElem?_toArray, List.getElem?_cons_zero]; rfl)
        case hd36 => rfl
        case hw36 => rfl
        case hy36 => ((intro w hSw; (try dsimp only at hSw); go_simp) <;> (with_reducible rfl))
        case hq36 => exact fun _ _ _ h => h
        simp only [List.set_cons_succ, List.set_cons_zero]
        refine take_at (i := 1) (d := 16) (oi := ?o37) (v := ?v37) ?hi37 ?hd37 (by kernel_rfl) (by kernel_rfl) (by kernel_rfl) ?hw37 ?hy37 ?hq37 (by assumption) ?r37
        case hi37 => (simp only [List.getElem?_toArray, List.getElem?_cons_succ, List.getElem?_cons_zero]; rfl)
        case hd37 => rfl
        case hw37 => rfl
        case hy37 => ((intro w hSw; (try dsimp only at hSw); obtain ⟨bz, _⟩ := X1.out _ hSw; obtain ⟨k0, k1, k2⟩ := bz.cells; go_simp) <;> (with_reducible rfl))
        case hq37 => exact fun _ _ _ h => h
        simp only [List.set_cons_succ, List.set_cons_zero]
        refine take_at (i := 5) (d := 20) (oi := ?o38) (v := ?v38) ?hi38 ?hd38 (by kernel_rfl) (by kernel_rfl) (by kernel_rfl) ?hw38 ?hy38 ?hq38 (by assumption) ?r38
        case hi38 => (simp only [List.getElem?_toArray, List.getElem?_cons_succ, List.getElem?_cons_zero]; rfl)
        case hd38 => rfl
        case hw38 => rfl
        case hy38 => ((intro w hSw; (try dsimp only at hSw); go_simp) <;> (with_reducible rfl))
        case hq38 => exact fun _ _ _ h => h
        simp only [List.set_cons_succ, List.set_cons_zero]
        refine take_at (i := 6) (d := 21) (oi := ?o39) (v := ?v39) ?hi39 ?hd39 (by kernel_rfl) (by kernel_rfl) (by kernel_rfl) ?hw39 ?hy39 ?hq39 (by assumption) ?r39
        case hi39 => (simp only [List.getElem?_toArray, List.getElem?_cons_succ, List.getElem?_cons_zero]; rfl)
        case hd39 => rfl
        case hw39 => rfl
        case hy39 => ((intro w hSw; (try dsimp only at hSw); obtain ⟨bz, _⟩ := X1.out _ hSw; obtain ⟨k0, k1, k2⟩ := bz.cells; go_simp) <;> (with_reducible rfl))
        case hq39 => exact fun _ _ _ h => h
        simp only [List.set_cons_succ, List.set_cons_zero]
        refine call_at (i := 2) (d := 17) (oi := ?o40) (f := ?f40) (args := ?a40) ?hi40 ?hd40 (by kernel_rfl) ?hw40 ?he40 ?hc40
        case hi40 => (simp only [List.getElem?_toArray, List.getElem?_cons_succ, List.getElem?_cons_zero]; rfl)
        case hd40 => rfl
        case hw40 => rfl
        case he40 => (go_simp; constructor <;> with_reducible rfl)
        refine Calls.mono (itoa_any s Hs.out _ (X1.out _ hHeld).2) ?_
        rintro r w2 ⟨rfl, hb2⟩
        have kb : Below w1.heap.size w1 w2 := hHeld.trans (hb2.mono hHeld.size)
        refine ⟨_, rfl, kb, fun hHeld => ?_⟩
        simp only [List.set_cons_succ, List.set_cons_zero]
        refine take_at (i := 3) (d := 18) (oi := ?o41) (v := ?v41) ?hi41 ?hd41 (by kernel_rfl) (by kernel_rfl) (by kernel_rfl) ?hw41 ?hy41 ?hq41 (by assumption) ?r41
        case hi41 => (simp only [List.getElem?_toArray, List.getElem?_cons_succ, List.getElem?_cons_zero]; rfl)
        case hd41 => rfl
        case hw41 => rfl
        case hy41 => ((intro w hSw; (try dsimp only at hSw); go_simp; rw [if_neg (by have := Hlen.out; omega)]) <;> (with_reducible rfl))
        case hq41 => exact fun _ _ _ h => h
        simp only [List.set_cons_succ, List.set_cons_zero]
        refine take_at (i := 4) (d := 19) (oi := ?o42) (v := ?v42) ?hi42 ?hd42 (by kernel_rfl) (by kernel_rfl) (by kernel_rfl) ?hw42 ?hy42 ?hq42 (by assumption) ?r42
        case hi42 => (simp only [List.getElem?_toArray, List.getElem?_cons_succ, List.getElem?_cons_zero]; rfl)
        case hd42 => rfl
        case hw42 => rfl
        case hy42 => ((intro w hSw; (try dsimp only at hSw); go_simp; rw [if_neg (by have := Hlen.out; omega)]) <;> (with_reducible rfl))
        case hq42 => exact fun _ _ _ h => h
        simp only [List.set_cons_succ, List.set_cons_zero]
        refine call_at (i := 7) (d := 22) (oi := ?o43) (f := ?f43) (args := ?a43) ?hi43 ?hd43 (by kernel_rfl) ?hw43 ?he43 ?hc43
        case hi43 => (simp only [List.getElem?_toArray, List.getElem?_cons_succ, List.getElem?_cons_zero]; rfl)
        case hd43 => rfl
        case hw43 => rfl
        case he43 => (go_simp; constructor <;> with_reducible rfl)
        refine Calls.mono (Tryd.strconv_Itoa_small fn Hfn.out _) ?_
        rintro r w3 ⟨rfl, rfl⟩
        refine ⟨_, rfl, hHeld, fun hHeld => ?_⟩
        simp only [List.set_cons_succ, List.set_cons_zero]
        refine take_at (i := 8) (d := 23) (oi := ?o44) (v := ?v44) ?hi44 ?hd44 (by kernel_rfl) (by kernel_rfl) (by kernel_rfl) ?hw44 ?hy44 ?hq44 (by assumption) ?r44
        case hi44 => (simp only [List.getElem?_toArray, List.getElem?_cons_succ, List.getElem?_cons_zero]; rfl)
        case hd44 => rfl
        case hw44 => rfl
        case hy44 => ((intro w hSw; (try dsimp only at hSw); go_simp; rw [if_neg (by have := Hlen.out; omega)]) <;> (with_reducible rfl))
        case hq44 => exact fun _ _ _ h => h
        simp only [List.set_cons_succ, List.set_cons_zero]
        refine take_at (i := 9) (d := 2) (oi := ?o45) (v := ?v45) ?hi45 ?hd45 (by kernel_rfl) (by kernel_rfl) (by kernel_rfl) ?hw45 ?hy45 ?hq45 (by assumption) ?r45
        case hi45 => (simp only [List.getElem?_toArray, List.getElem?_cons_succ, List.getElem?_cons_zero]; rfl)
        case hd45 => rfl
        case hw45 => rfl
        case hy45 => ((intro w hSw; (try dsimp only at hSw); go_simp) <;> (with_reducible rfl))
        case hq45 => exact fun _ _ _ h => h
        simp only [List.set_cons_succ, List.set_cons_zero]
        refine take_at (i := 10) (d := 3) (oi := ?o46) (v := ?v46) ?hi46 ?hd46 (by kernel_rfl) (by kernel_rfl) (by kernel_rfl) ?hw46 ?hy46 ?hq46 (by assumption) ?r46
        case hi46 => (simp only [List.getElem?_toArray, List.getElem?_cons_succ, List.getElem?_cons_zero]; rfl)
        case hd46 => rfl
        case hw46 => rfl
        case hy46 => ((intro w hSw; (try dsimp only at hSw); go_simp) <;> (with_reducible rfl))
        case hq46 => exact fun _ _ _ h => h
        simp only [List.set_cons_succ, List.set_cons_zero]
        refine wpAnyH_done (by kernel_rfl) ?_ _
        go_wp2_with fail
        refine bodyPost_ret (v := .tuple #[.string (⟨#[115]⟩ ++ ⟨(Lib.itoa s).toArray⟩ ++ ⟨#[46]⟩ ++ ⟨(Lib.decDigits fn).toArray⟩), .int .i64 0]) (by simp [results, Tryd.results11, go_sem]; try rfl) rfl ⟨name_out Hc.out (name_yes Hm.out).2, below_on HB1.out hHeld⟩
      · have Hc := Lib.hid (name_txt (c := 112) (.inr ⟨rfl, rfl⟩) Hm.out Hf.out)
        go_upto_region 10 with fail
        refine wp_region_held_drew (S := (fun W => Below w1.heap.size w1 W)) (by kernel_rfl) (below_dr (below_d0 _)) (fun hHeld => ?_)
        refine take_at (i := 0) (d := 24) (oi := ?o47) (v := ?v47) ?hi47 ?hd47 (by kernel_rfl) (by kernel_rfl) (by kernel_rfl) ?hw47 ?hy47 ?hq47 (by assumption) ?r47
        case hi47 => (simp only [List.getElem?_toArray, List.getElem?_cons_zero]; rfl)
        case hd47 => rfl
        case hw47 => rfl
        case hy47 => ((intro w hSw; (try dsimp only at hSw); go_simp) <;> (with_reducible rfl))
        case hq47 => exact fun _ _ _ h => h
        simp only [List.set_cons_succ, List.set_cons_zero]
        refine take_at (i := 1) (d := 25) (oi := ?o48) (v := ?v48) ?hi48 ?hd48 (by kernel_rfl) (by kernel_rfl) (by kernel_rfl) ?hw48 ?hy48 ?hq48 (by assumption) ?r48
        case hi48 => (simp only [List.getElem?_toArray, List.getElem?_cons_succ, List.getElem?_cons_zero]; rfl)
        case hd48 => rfl
        case hw48 => rfl
        case hy48 => ((intro w hSw; (try dsimp only at hSw); obtain ⟨bz, _⟩ := X1.out _ hSw; obtain ⟨k0, k1, k2⟩ := bz.cells; go_simp) <;> (with_reducible rfl))
        case hq48 => exact fun _ _ _ h => h
        simp only [List.set_cons_succ, List.set_cons_zero]
        refine take_at (i := 5) (d := 29) (oi := ?o49) (v := ?v49) ?hi49 ?hd49 (by kernel_rfl) (by kernel_rfl) (by kernel_rfl) ?hw49 ?hy49 ?hq49 (by assumption) ?r49
        case hi49 => (simp only [List.getElem?_toArray, List.getElem?_cons_succ, List.getElem?_cons_zero]; rfl)
        case hd49 => rfl
        case hw49 => rfl
        case hy49 => ((intro w hSw; (try dsimp only at hSw); go_simp) <;> (with_reducible rfl))
        case hq49 => exact fun _ _ _ h => h
        simp only [List.set_cons_succ, List.set_cons_zero]
        refine take_at (i := 6) (d := 30) (oi := ?o50) (v := ?v50) ?hi50 ?hd50 (by kernel_rfl) (by kernel_rfl) (by kernel_rfl) ?hw50 ?hy50 ?hq50 (by assumption) ?r50
        case hi50 => (simp only [List.getElem?_toArray, List.getElem?_cons_succ, List.getElem?_cons_zero]; rfl)
        case hd50 => rfl
        case hw50 => rfl
        case hy50 => ((intro w hSw; (try dsimp only at hSw); obtain ⟨bz, _⟩ := X1.out _ hSw; obtain ⟨k0, k1, k2⟩ := bz.cells; go_simp) <;> (with_reducible rfl))
        case hq50 => exact fun _ _ _ h => h
        simp only [List.set_cons_succ, List.set_cons_zero]
        refine call_at (i := 2) (d := 26) (oi := ?o51) (f := ?f51) (args := ?a51) ?hi51 ?hd51 (by kernel_rfl) ?hw51 ?he51 ?hc51
        case hi51 => (simp only [List.getElem?_toArray, List.getElem?_cons_succ, List.getElem?_cons_zero]; rfl)
        case hd51 => rfl
        case hw51 => rfl
        case he51 => (go_simp; constructor <;> with_reducible rfl)
        refine Calls.mono (itoa_any s Hs.out _ (X1.out _ hHeld).2) ?_
        rintro r w2 ⟨rfl, hb2⟩
        have kb : Below w1.heap.size w1 w2 := hHeld.trans (hb2.mono hHeld.size)
        refine ⟨_, rfl, kb, fun hHeld => ?_⟩
        simp only [List.set_cons_succ, List.set_cons_zero]
        refine take_at (i := 3) (d := 27) (oi := ?o52) (v := ?v52) ?hi52 ?hd52 (by kernel_rfl) (by kernel_rfl) (by kernel_rfl) ?hw52 ?hy52 ?hq52 (by assumption) ?r52
        case hi52 => (simp only [List.getElem?_toArray, List.getElem?_cons_succ, List.getElem?_cons_zero]; rfl)
        case hd52 => rfl
        case hw52 => rfl
        case hy52 => ((intro w hSw; (try dsimp only at hSw); go_simp; rw [if_neg (by have := Hlen.out; omega)]) <;> (with_reducible rfl))
        case hq52 => exact fun _ _ _ h => h
        simp only [List.set_cons_succ, List.set_cons_zero]
        refine take_at (i := 4) (d := 28) (oi := ?o53) (v := ?v53) ?hi53 ?hd53 (by kernel_rfl) (by kernel_rfl) (by kernel_rfl) ?hw53 ?hy53 ?hq53 (by assumption) ?r53
        case hi53 => (simp only [List.getElem?_toArray, List.getElem?_cons_succ, List.getElem?_cons_zero]; rfl)
        case hd53 => rfl
        case hw53 => rfl
        case hy53 => ((intro w hSw; (try dsimp only at hSw); go_simp; rw [if_neg (by have := Hlen.out; omega)]) <;> (with_reducible rfl))
        case hq53 => exact fun _ _ _ h => h
        simp only [List.set_cons_succ, List.set_cons_zero]
        refine call_at (i := 7) (d := 31) (oi := ?o54) (f := ?f54) (args := ?a54) ?hi54 ?hd54 (by kernel_rfl) ?hw54 ?he54 ?hc54
        case hi54 => (simp only [List.getElem?_toArray, List.getElem?_cons_succ, List.getElem?_cons_zero]; rfl)
        case hd54 => rfl
        case hw54 => rfl
        case he54 => (go_simp; constructor <;> with_reducible rfl)
        refine Calls.mono (Tryd.strconv_Itoa_small fn Hfn.out _) ?_
        rintro r w3 ⟨rfl, rfl⟩
        refine ⟨_, rfl, hHeld, fun hHeld => ?_⟩
        simp only [List.set_cons_succ, List.set_cons_zero]
        refine take_at (i := 8) (d := 32) (oi := ?o55) (v := ?v55) ?hi55 ?hd55 (by kernel_rfl) (by kernel_rfl) (by kernel_rfl) ?hw55 ?hy55 ?hq55 (by assumption) ?r55
        case hi55 => (simp only [List.getElem?_toArray, List.getElem?_cons_succ, List.getElem?_cons_zero]; rfl)
        case hd55 => rfl
        case hw55 => rfl
        case hy55 => ((intro w hSw; (try dsimp only at hSw); go_simp; rw [if_neg (by have := Hlen.out; omega)]) <;> (with_reducible rfl))
        case hq55 => exact fun _ _ _ h => h
        simp only [List.set_cons_succ, List.set_cons_zero]
        refine take_at (i := 9) (d := 2) (oi := ?o56) (v := ?v56) ?hi56 ?hd56 (by kernel_rfl) (by kernel_rfl) (by kernel_rfl) ?hw56 ?hy56 ?hq56 (by assumption) ?r56
        case hi56 => (simp only [List.getElem?_toArray, List.getElem?_cons_succ, List.getElem?_cons_zero]; rfl)
        case hd56 => rfl
        case hw56 => rfl
        case hy56 => ((intro w hSw; (try dsimp only at hSw); go_simp) <;> (with_reducible rfl))
        case hq56 => exact fun _ _ _ h => h
        simp only [List.set_cons_succ, List.set_cons_zero]
        refine take_at (i := 10) (d := 3) (oi := ?o57) (v := ?v57) ?hi57 ?hd57 (by kernel_rfl) (by kernel_rfl) (by kernel_rfl) ?hw57 ?hy57 ?hq57 (by assumption) ?r57
        case hi57 => (simp only [List.getElem?_toArray, List.getElem?_cons_succ, List.getElem?_cons_zero]; rfl)
        case hd57 => rfl
        case hw57 => rfl
        case hy57 => ((intro w hSw; (try dsimp only at hSw); go_simp) <;> (with_reducible rfl))
        case hq57 => exact fun _ _ _ h => h
        simp only [List.set_cons_succ, List.set_cons_zero]
        refine wpAnyH_done (by kernel_rfl) ?_ _
        go_wp2_with fail
        refine bodyPost_ret (v := .tuple #[.string (⟨#[112]⟩ ++ ⟨(Lib.itoa s).toArray⟩ ++ ⟨#[46]⟩ ++ ⟨(Lib.decDigits fn).toArray⟩), .int .i64 0]) (by simp [results, Tryd.results11, go_sem]; try rfl) rfl ⟨name_out Hc.out (name_yes Hm.out).2, below_on HB1.out hHeld⟩
  · rw [decide_eq_false hm]
    have Hm := Lib.hid hm
    clear hm
    go_wp2_with fail
    refine bodyPost_ret (v := .tuple #[.string ⟨#[]⟩, .int .i64 2]) (by simp [results, Tryd.results11, go_sem]; try rfl) rfl ⟨name_out (name_no Hm.out).1 (name_no Hm.out).2, HB1.out⟩

end Go.Proofs.YtbfdjjkphmchgaaDoor
