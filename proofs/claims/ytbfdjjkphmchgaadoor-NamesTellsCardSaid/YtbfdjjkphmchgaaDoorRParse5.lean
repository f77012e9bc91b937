/-
  moultref05.Parse: its contract.
-/
import Derived.Test.YtbfdjjkphmchgaaDoorParR5
import Derived.Test.YtbfdjjkphmchgaaDoorWakes
namespace Go.Proofs.YtbfdjjkphmchgaaDoor
open Go.RowKit Go.Maps
set_option linter.unusedVariables false
set_option linter.unusedSimpArgs false

theorem nm_is {nm : ByteArray} {l : List UInt8} (h : nm.data.toList = l) : nm = ⟨l.toArray⟩ := ba_ext (by rw [← h])
theorem parse_m : parseP ⟨#[77]⟩ = (⟨1, 0, 0⟩, true) := by
  have h := parse_told (x := ⟨1, 0, 0⟩) (.inl ⟨.inl rfl, rfl, rfl⟩)
  rwa [(name_yes (.inl ⟨.inl rfl, rfl, rfl⟩)).1] at h
theorem parse_n : parseP ⟨#[77, 46, 110, 101, 119]⟩ = (⟨2, 0, 0⟩, true) := by
  have h := parse_told (x := ⟨2, 0, 0⟩) (.inl ⟨.inr rfl, rfl, rfl⟩)
  rwa [(name_yes (.inl ⟨.inr rfl, rfl, rfl⟩)).1] at h
theorem byI_get {bs : List UInt8} {i : Nat} {c : UInt8} (h : bs[i]? = some c) : byI bs i = (c.toNat : Int) := by unfold byI; rw [h]; rfl

set_option maxRecDepth 100000 in
set_option maxHeartbeats 4000000 in
theorem rparse_any (nm : ByteArray) (hn : nm.size ≤ 3000000000) (w : World) (hP : Pow w) : Calls Tryd.prog 13 #[.string nm] w fun e w' => e = .returned (.tuple #[(parseP nm).1.v, .bool (parseP nm).2]) ∧ Below w.heap.size w w' := by
  have HP := Lib.hid hP
  clear hP
  go_enter Tryd.func13, Tryd.ntmps13
  go_upto_region 1 with fail
  obtain ⟨z, hz⟩ : ∃ z, z = w.heap.size := ⟨_, rfl⟩
  obtain ⟨w0, hw0⟩ : ∃ w0, w0 = w.alloc (.cells #[.int .u8 0, .int .i64 0, .int .i64 0] 23) := ⟨_, rfl⟩
  have hB0 : Below w.heap.size w w0 := by rw [hw0]; exact below_al (below_d0 w) _
  have b0 : BoxI w0 z ⟨0, 0, 0⟩ := by rw [hw0, hz]; exact BoxI.new w ⟨0, 0, 0⟩
  try rw [← hw0, ← hz]
  have Hz := Lib.hid (show w.heap.size ≤ z by omega)
  clear hw0 hz
  obtain ⟨c0, c1, c2⟩ := b0.cells
  obtain ⟨f0, f1, f2⟩ := b0.frozen
  have H0 := Lib.hid (⟨b0, hB0⟩ : _ ∧ _)
  clear b0 hB0
  by_cases e1 : nm.data.toList = [77]
  · have t1 : (nm.toList == [77]) = true := by rw [ByteArray.toList_eq, e1]; rfl
    have HR := Lib.hid (show parseP nm = (⟨1, 0, 0⟩, true) by rw [nm_is e1]; exact parse_m)
    clear e1
    go_wp2_with fail
    have b4 := (((H0.out.1.s0 1).s1 0).s2 0)
    obtain ⟨d0, d1, d2⟩ := b4.cells
    refine bodyPost_ret (v := .tuple #[(⟨1, 0, 0⟩ : IdP).v, .bool true]) (by simp [results, Tryd.results13, go_sem, IdP.v, *]) rfl ⟨by rw [HR.out], ((H0.out.2.setCell Hz.out _).setCell Hz.out _).setCell Hz.out _⟩
  have t1 : (nm.toList == [77]) = false := by rw [ByteArray.toList_eq]; exact beq_eq_false_iff_ne.2 e1
  by_cases e2 : nm.data.toList = [77, 46, 110, 101, 119]
  · have t2 : (nm.toList == [77, 46, 110, 101, 119]) = true := by rw [ByteArray.toList_eq, e2]; rfl
    have HR := Lib.hid (show parseP nm = (⟨2, 0, 0⟩, true) by rw [nm_is e2]; exact parse_n)
    clear e1 e2
    go_wp2_with fail
    have b4 := (((H0.out.1.s0 2).s1 0).s2 0)
    obtain ⟨d0, d1, d2⟩ := b4.cells
    refine bodyPost_ret (v := .tuple #[(⟨2, 0, 0⟩ : IdP).v, .bool true]) (by simp [results, Tryd.results13, go_sem, IdP.v, *]) rfl ⟨by rw [HR.out], ((H0.out.2.setCell Hz.out _).setCell Hz.out _).setCell Hz.out _⟩
  have t2 : (nm.toList == [77, 46, 110, 101, 119]) = false := by rw [ByteArray.toList_eq]; exact beq_eq_false_iff_ne.2 e2
  obtain ⟨n, hsz⟩ : ∃ n, n = nm.size := ⟨_, rfl⟩
  obtain ⟨bs, hbs⟩ : ∃ bs, bs = nm.data.toList := ⟨_, rfl⟩
  have hlen : bs.length = n := by rw [hbs, hsz, Array.length_toList]; rfl
  have HW := Lib.hid (show parseP nm = (⟨0, 0, 0⟩, false) ∨ ∃ x, Seg bs x ∧ MayP x ∧ nameP x = nm by
    rcases parse_ways nm with h | h | h | h
    · exact .inl h
    · exact absurd (by rw [h]) e1
    · exact absurd (by rw [h]) e2
    · rw [hbs]; exact .inr h)
  have HL := Lib.hid hlen
  have hix : ∀ (i : Nat), i < n → ∀ w, (Instr.index 9 (.string nm) (.int .i64 (i : Int))).run Tryd.prog w = .ok (.int .u8 (byI bs i)) w := fun i hi w => by rw [hbs]; exact idx_run nm i _ rfl (by rw [← hsz]; exact hi) w
  have HX := Lib.hid hix
  have HS := Lib.hid hsz
  clear e1 e2 hix hbs
  by_cases h4 : n < 4
  · have u1 : decide ((nm.size : Int) < 4) = true := by rw [← hsz]; simp; omega
    have HR := Lib.hid (show parseP nm = (⟨0, 0, 0⟩, false) from HW.out.resolve_right (by rintro ⟨x, h, -⟩; have := h.bound; omega))
    clear h4 hsz hlen
    go_wp2_with fail
    have b4 := (((H0.out.1.s0 0).s1 0).s2 0)
    obtain ⟨d0, d1, d2⟩ := b4.cells
    refine bodyPost_ret (v := .tuple #[(⟨0, 0, 0⟩ : IdP).v, .bool false]) (by simp [results, Tryd.results13, go_sem, IdP.v, *]) rfl ⟨by rw [HR.out], ((H0.out.2.setCell Hz.out _).setCell Hz.out _).setCell Hz.out _⟩
  have u1 : decide ((nm.size : Int) < 4) = false := by rw [← hsz]; simp; omega
  by_cases h20 : 20 < n
  · have u2 : decide ((20 : Int) < (nm.size : Int)) = true := by rw [← hsz]; simp; omega
    have HR := Lib.hid (show parseP nm = (⟨0, 0, 0⟩, false) from HW.out.resolve_right (by rintro ⟨x, h, -⟩; have := h.bound; omega))
    clear h4 h20 hsz hlen
    go_wp2_with fail
    have b4 := (((H0.out.1.s0 0).s1 0).s2 0)
    obtain ⟨d0, d1, d2⟩ := b4.cells
    refine bodyPost_ret (v := .tuple #[(⟨0, 0, 0⟩ : IdP).v, .bool false]) (by simp [results, Tryd.results13, go_sem, IdP.v, *]) rfl ⟨by rw [HR.out], ((H0.out.2.setCell Hz.out _).setCell Hz.out _).setCell Hz.out _⟩
  have u2 : decide ((20 : Int) < (nm.size : Int)) = false := by rw [← hsz]; simp; omega
  obtain ⟨n2, hn2⟩ : ∃ n2, n2 + 2 = n := ⟨n - 2, by omega⟩
  obtain ⟨n1, hn1⟩ : ∃ n1, n1 + 1 = n := ⟨n - 1, by omega⟩
  have a1 : IntKind.i64.wrap ((nm.size : Int) - 2) = (n2 : Int) := by rw [← hsz, IntKind.wrap_i64] <;> omega
  have a2 : IntKind.i64.wrap ((nm.size : Int) - 1) = (n1 : Int) := by rw [← hsz, IntKind.wrap_i64] <;> omega
  have HN := Lib.hid (⟨hn2, hn1, hsz⟩ : _ ∧ _ ∧ _)
  have hnb : n2 ≤ 18 ∧ 2 ≤ n2 := by omega
  have hnn : n ≤ 20 ∧ n1 < n ∧ 0 < n ∧ n2 < n := by omega
  clear h4 h20 hsz hlen hn1 hn2 c0 c1 c2 f0 f1 f2
  go_wp2_with fail
  go_loopw [5, 6] (fun s5 s6 wr => ∃ (i : Nat), 1 ≤ i ∧ i ≤ n2 ∧ s6 = .int .i64 i ∧ s5 = .int .i64 ((numN 0 ((bs.drop 1).take (i - 1)) : Nat) : Int) ∧ numN 0 ((bs.drop 1).take (i - 1)) ≤ 10737418250 ∧ BoxI wr z ⟨0, 0, 0⟩ ∧ Below w.heap.size w wr) (fun _ s _ => n2 - (intOf s).toNat)
  case atStart => exact ⟨1, Nat.le_refl _, by omega, rfl, rfl, by simp [numN], H0.out.1, H0.out.2⟩
  obtain ⟨i, hi1, hi2, rfl, rfl, hS, hb, hB⟩ := hrel
  obtain ⟨S, hSe⟩ : ∃ S, S = numN 0 ((bs.drop 1).take (i - 1)) := ⟨_, rfl⟩
  rw [← hSe] at hS ⊢
  obtain ⟨c0, c1, c2⟩ := hb.cells
  obtain ⟨f0, f1, f2⟩ := hb.frozen
  by_cases hlt : i < n2
  · have hlI : decide ((i : Int) < (n2 : Int)) = true := by simp; omega
    obtain ⟨c, hc⟩ : ∃ c, bs[i]? = some c := ⟨_, List.getElem?_eq_getElem (by rw [HL.out]; omega)⟩
    obtain ⟨q, hq⟩ : ∃ q, q = c.toNat := ⟨_, rfl⟩
    have hqb : q ≤ 255 := by rw [hq]; have := c.toNat_lt; omega
    have hx : ∀ w, (Instr.index 9 (.string nm) (.int .i64 (i : Int))).run Tryd.prog w = .ok (.int .u8 (q : Int)) w := fun w => by rw [HX.out i (by omega) w, byI_get hc, hq]
    have hbad : (q < 48 ∨ 57 < q ∨ 1073741824 < S) → parseP nm = (⟨0, 0, 0⟩, false) := fun h => HW.out.resolve_right (by
      rintro ⟨x, hs, -⟩
      have h1 := hs.dig hi1 (by rw [HL.out]; have := HN.out.1; omega) hc
      have h2 := hs.num (i := i) (by rw [HL.out]; have := HN.out.1; omega)
      rw [← hSe] at h2
      unfold isDig at h1
      simp at h1
      omega)
    have HI := Lib.hid (⟨hi1, hi2, hSe, hb, hB, hc, hq⟩ : _ ∧ _ ∧ _ ∧ _ ∧ _ ∧ _ ∧ _)
    clear hi1 hi2 hSe hb hB hc hq
    by_cases q1 : q < 48
    · have v1 : decide ((q : Int) < 48) = true := by simp; omega
      have HR := Lib.hid (hbad (.inl q1))
      clear hbad q1
      go_wp2_with fail
      have b4 := (((HI.out.2.2.2.1.s0 0).s1 0).s2 0)
      obtain ⟨d0, d1, d2⟩ := b4.cells
      refine bodyPost_ret (v := .tuple #[(⟨0, 0, 0⟩ : IdP).v, .bool false]) (by simp [results, Tryd.results13, go_sem, IdP.v, *]) rfl ⟨by rw [HR.out], ((HI.out.2.2.2.2.1.setCell Hz.out _).setCell Hz.out _).setCell Hz.out _⟩
    have v1 : decide ((q : Int) < 48) = false := by simp; omega
    by_cases q2 : 57 < q
    · have v2 : decide ((57 : Int) < (q : Int)) = true := by simp; omega
      have HR := Lib.hid (hbad (.inr (.inl q2)))
      clear hbad q1 q2
      go_wp2_with fail
      have b4 := (((HI.out.2.2.2.1.s0 0).s1 0).s2 0)
      obtain ⟨d0, d1, d2⟩ := b4.cells
      refine bodyPost_ret (v := .tuple #[(⟨0, 0, 0⟩ : IdP).v, .bool false]) (by simp [results, Tryd.results13, go_sem, IdP.v, *]) rfl ⟨by rw [HR.out], ((HI.out.2.2.2.2.1.setCell Hz.out _).setCell Hz.out _).setCell Hz.out _⟩
    have v2 : decide ((57 : Int) < (q : Int)) = false := by simp; omega
    by_cases q3 : 1073741824 < S
    · have v3 : decide ((1073741824 : Int) < (S : Int)) = true := by simp; omega
      have HR := Lib.hid (hbad (.inr (.inr q3)))
      clear hbad q1 q2 q3
      go_wp2_with fail
      have b4 := (((HI.out.2.2.2.1.s0 0).s1 0).s2 0)
      obtain ⟨d0, d1, d2⟩ := b4.cells
      refine bodyPost_ret (v := .tuple #[(⟨0, 0, 0⟩ : IdP).v, .bool false]) (by simp [results, Tryd.results13, go_sem, IdP.v, *]) rfl ⟨by rw [HR.out], ((HI.out.2.2.2.2.1.setCell Hz.out _).setCell Hz.out _).setCell Hz.out _⟩
    have v3 : decide ((1073741824 : Int) < (S : Int)) = false := by simp; omega
    obtain ⟨p, hp⟩ : ∃ p, p + 48 = q := ⟨q - 48, by omega⟩
    obtain ⟨T, hT⟩ : ∃ T, T = S * 10 + p := ⟨_, rfl⟩
    obtain ⟨S10, hS10⟩ : ∃ X, X = 10 * S := ⟨_, rfl⟩
    have r1 : IntKind.i64.wrap (10 * (S : Int)) = (S10 : Int) := by rw [IntKind.wrap_i64] <;> omega
    have r2 : IntKind.u8.wrap ((q : Int) - 48) = (p : Int) := by rw [IntKind.wrap_u8] <;> omega
    have r3 : IntKind.i64.wrap (p : Int) = (p : Int) := by rw [IntKind.wrap_i64] <;> omega
    have r4 : IntKind.i64.wrap ((S10 : Int) + (p : Int)) = (T : Int) := by rw [IntKind.wrap_i64] <;> omega
    have hTe : T = numN 0 ((bs.drop 1).take (i + 1 - 1)) := by
      obtain ⟨hi1, hi2, hSe, hb, hB, hc, hq⟩ := HI.out
      rw [show i + 1 - 1 = i - 1 + 1 by omega, List.take_add_one, List.getElem?_drop, show 1 + (i - 1) = i by omega, hc, Option.toList_some, num_snoc, ← hSe, ← hq, hT]
      omega
    have HT := Lib.hid (⟨hTe, show T ≤ 10737418250 by omega⟩ : _ ∧ _)
    clear hbad q1 q2 q3 hp hT hS10 hTe
    go_wp2_with fail
    go_roundw
    case rel => exact ⟨i + 1, by omega, by omega, by go_num, by rw [HT.out.1], by rw [← HT.out.1]; exact HT.out.2, HI.out.2.2.2.1, HI.out.2.2.2.2.1⟩
    case measure => simp [intOf]; omega
  · have hlI : decide ((i : Int) < (n2 : Int)) = false := by simp; omega
    obtain ⟨cl, hcl⟩ : ∃ c, bs[n1]? = some c := ⟨_, List.getElem?_eq_getElem (by rw [HL.out]; omega)⟩
    obtain ⟨ca, hca⟩ : ∃ c, bs[0]? = some c := ⟨_, List.getElem?_eq_getElem (by rw [HL.out]; omega)⟩
    obtain ⟨q, hq⟩ : ∃ q, q = cl.toNat := ⟨_, rfl⟩
    obtain ⟨q0, hq0⟩ : ∃ q, q = ca.toNat := ⟨_, rfl⟩
    have hqb : q ≤ 255 := by rw [hq]; have := cl.toNat_lt; omega
    have hx : ∀ w, (Instr.index 9 (.string nm) (.int .i64 (n1 : Int))).run Tryd.prog w = .ok (.int .u8 (q : Int)) w := fun w => by rw [HX.out n1 (by omega) w, byI_get hcl, hq]
    have hx0 : ∀ w, (Instr.index 9 (.string nm) (.int .i64 0)).run Tryd.prog w = .ok (.int .u8 (q0 : Int)) w := fun w => by have h := HX.out 0 (by omega) w; rw [byI_get hca, ← hq0] at h; exact h
    obtain ⟨f, hf⟩ : ∃ f : Int, f = (q : Int) - 48 := ⟨_, rfl⟩
    have r1 : IntKind.i64.wrap (q : Int) = (q : Int) := by rw [IntKind.wrap_i64] <;> omega
    have r2 : IntKind.i64.wrap ((q : Int) - 48) = f := by rw [IntKind.wrap_i64] <;> omega
    obtain ⟨K, hK⟩ : ∃ K : Int, K = if q0 = 112 then 4 else 3 := ⟨_, rfl⟩
    have hseg : ∀ x, Seg bs x → x = ⟨K, (S : Int), f⟩ := fun x hs => by
      have h1 := hs.all
      have h2 := hs.first
      have h3 := hs.last
      have hnn1 := HN.out.2.1
      have hnn2 := HN.out.1
      rw [HL.out, show n - 3 = i - 1 by omega, ← hSe] at h1
      rw [HL.out, show n - 1 = n1 by omega, hcl] at h3
      rw [hca] at h2
      cases h2
      cases h3
      refine IdP.ext_ ?_ h1.symm ?_
      · show x.kind = K
        rw [hK, hq0]
        rcases hs.kind with hk | hk <;> simp [hk]
      · rw [hf, hq]
        rcases hs.fmt with hk | hk <;> rw [hk] <;> rfl
    have HI := Lib.hid (⟨hb, hB, hseg⟩ : _ ∧ _ ∧ _)
    clear hb hB hseg hSe hcl hca hq hf hS hqb hi1 hi2
    go_upto_region 16 with fail
    obtain ⟨z7, hz7⟩ : ∃ z7, z7 = wr.heap.size := ⟨_, rfl⟩
    obtain ⟨wa, hwa⟩ : ∃ wa, wa = wr.alloc (.cells #[.int .u8 3, .int .i64 (S : Int), .int .i64 f] 23) := ⟨_, rfl⟩
    have hBa : Below wr.heap.size wr wa := by rw [hwa]; exact below_al (below_d0 wr) _
    have b7 : BoxI wa z7 ⟨3, (S : Int), f⟩ := by rw [hwa, hz7]; exact BoxI.new wr ⟨3, (S : Int), f⟩
    have bz : BoxI wa z ⟨0, 0, 0⟩ := HI.out.1.below hBa
    have kb : Below w.heap.size w wa := below_on HI.out.2.1 hBa
    have hne : z ≠ z7 := by have := HI.out.1.lt; omega
    have hz7b : w.heap.size ≤ z7 := by have := HI.out.2.1.size; omega
    rw [← hwa, ← hz7]
    clear hwa hz7 hBa c0 c1 c2 f0 f1 f2
    have HB := Lib.hid (⟨b7, bz, kb, hne, hz7b, hK⟩ : _ ∧ _ ∧ _ ∧ _ ∧ _ ∧ _)
    clear b7 bz kb hne hz7b hK
    go_upto_if 64 with fail
    go_cut [] (fun wx => BoxI wx z7 ⟨K, (S : Int), f⟩ ∧ BoxI wx z ⟨0, 0, 0⟩ ∧ Below w.heap.size w wx)
    case first => as_aux_lemma =>
      obtain ⟨b7, bz, kb, hne, hz7b, hK⟩ := HB.out
      obtain ⟨c0, c1, c2⟩ := b7.cells
      obtain ⟨f0, f1, f2⟩ := b7.frozen
      by_cases e : q0 = 112
      · have x1 : ((q0 : Int) == 112) = true := by simp; omega
        have x2 : decide ((q0 : Int) = 112) = true := by simp; omega
        have x3 : (q0 : Int) = 112 := by omega
        have HZ := Lib.hid (show BoxI (wa.setCell ⟨z7, 0, none⟩ (.int .u8 4)) z7 ⟨K, (S : Int), f⟩ ∧ BoxI (wa.setCell ⟨z7, 0, none⟩ (.int .u8 4)) z ⟨0, 0, 0⟩ ∧ Below w.heap.size w (wa.setCell ⟨z7, 0, none⟩ (.int .u8 4)) from
          ⟨by rw [hK, if_pos e]; exact b7.s0 4, ((set_grown wa z7 _).block z bz.lt (by simp; omega)).trans bz, kb.setCell hz7b _⟩)
        clear b7 bz kb hne hz7b hK e
        go_wp2_with fail
        go_meet
        exact HZ.out
      · have x1 : ((q0 : Int) == 112) = false := by simp; omega
        have x2 : decide ((q0 : Int) = 112) = false := by simp; omega
        have x3 : ¬ (q0 : Int) = 112 := by omega
        have HZ := Lib.hid (show BoxI wa z7 ⟨K, (S : Int), f⟩ ∧ BoxI wa z ⟨0, 0, 0⟩ ∧ Below w.heap.size w wa from ⟨by rw [hK, if_neg e]; exact b7, bz, kb⟩)
        clear b7 bz kb hne hz7b hK e
        go_wp2_with fail
        go_meet
        exact HZ.out
    obtain ⟨b7, bz, kb⟩ := hcut
    clear HB
    obtain ⟨c0, c1, c2⟩ := b7.cells
    have HB := Lib.hid (⟨b7, bz, kb⟩ : _ ∧ _ ∧ _)
    clear b7 bz kb
    go_wp2_with fail
    refine (rname_any ⟨K, (S : Int), f⟩ _ (HP.out.on HB.out.2.2)).mono ?_
    rintro e w2 ⟨rfl, hb2⟩
    have b7 := HB.out.1.below hb2
    have bz := HB.out.2.1.below hb2
    have kb := below_on HB.out.2.2 hb2
    clear HB hb2 c0 c1 c2
    obtain ⟨c0, c1, c2⟩ := b7.cells
    obtain ⟨m0, m1, m2⟩ := bz.cells
    obtain ⟨f0, f1, f2⟩ := bz.frozen
    have HB := Lib.hid (⟨b7, bz, kb⟩ : _ ∧ _ ∧ _)
    clear b7 bz kb
    obtain ⟨N, hNe⟩ : ∃ N, N = nameP ⟨K, (S : Int), f⟩ := ⟨_, rfl⟩
    rw [← hNe]
    by_cases hM : MayP ⟨K, (S : Int), f⟩
    · rw [show errP ⟨K, (S : Int), f⟩ = 0 from if_pos hM]
      by_cases hNm : N = nm
      · have t9 := names_eq hNm
        have HR := Lib.hid (show parseP nm = (⟨K, (S : Int), f⟩, true) by rw [← hNm, hNe]; exact parse_told hM)
        clear hM hNm hNe
        go_wp2_with fail
        have b4 := (((HB.out.2.1.s0 K).s1 (S : Int)).s2 f)
        obtain ⟨d0, d1, d2⟩ := b4.cells
        refine bodyPost_ret (v := .tuple #[(⟨K, (S : Int), f⟩ : IdP).v, .bool true]) (by simp [results, Tryd.results13, go_sem, IdP.v, *]) rfl ⟨by rw [HR.out], ((HB.out.2.2.setCell Hz.out _).setCell Hz.out _).setCell Hz.out _⟩
      · have t9 := names_ne hNm
        have HR := Lib.hid (show parseP nm = (⟨0, 0, 0⟩, false) from HW.out.resolve_right (by
          rintro ⟨x, hs, -, hx⟩
          rw [HI.out.2.2 x hs, ← hNe] at hx
          exact hNm hx))
        clear hM hNm hNe
        go_wp2_with fail
        have b4 := (((HB.out.2.1.s0 0).s1 0).s2 0)
        obtain ⟨d0, d1, d2⟩ := b4.cells
        refine bodyPost_ret (v := .tuple #[(⟨0, 0, 0⟩ : IdP).v, .bool false]) (by simp [results, Tryd.results13, go_sem, IdP.v, *]) rfl ⟨by rw [HR.out], ((HB.out.2.2.setCell Hz.out _).setCell Hz.out _).setCell Hz.out _⟩
    · rw [show errP ⟨K, (S : Int), f⟩ = 2 from if_neg hM]
      have HR := Lib.hid (show parseP nm = (⟨0, 0, 0⟩, false) from HW.out.resolve_right (by
        rintro ⟨x, hs, hx, -⟩
        rw [HI.out.2.2 x hs] at hx
        exact hM hx))
      clear hM hNe
      go_wp2_with fail
      have b4 := (((HB.out.2.1.s0 0).s1 0).s2 0)
      obtain ⟨d0, d1, d2⟩ := b4.cells
      refine bodyPost_ret (v := .tuple #[(⟨0, 0, 0⟩ : IdP).v, .bool false]) (by simp [results, Tryd.results13, go_sem, IdP.v, *]) rfl ⟨by rw [HR.out], ((HB.out.2.2.setCell Hz.out _).setCell Hz.out _).setCell Hz.out _⟩

end Go.Proofs.YtbfdjjkphmchgaaDoor
