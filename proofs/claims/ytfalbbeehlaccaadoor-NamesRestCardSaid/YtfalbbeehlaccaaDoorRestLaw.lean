/-
  moultlaw05.NamesRest: it returns true.
-/
import Derived.Test.YtfalbbeehlaccaaDoorWakes
import Derived.Test.YtfalbbeehlaccaaDoorGreat
namespace Go.Proofs.YtfalbbeehlaccaaDoor
open Go.RowKit Go.Maps

theorem calls_mem {l : List FlP} {y : Nat × ByteArray} (h : y ∈ callsP l) : ∃ g, l[y.1]? = some g ∧ y.2 = g.name := by
  unfold callsP at h
  obtain ⟨p, hp, rfl⟩ := List.mem_map.1 h
  obtain ⟨g, i⟩ := p
  exact ⟨g, List.mem_zipIdx_iff_getElem?.1 hp, rfl⟩
theorem find_le {l : List FlP} {i : Nat} {f : FlP} (hf : l[i]? = some f) : ∃ (a : Nat) (g : FlP), a ≤ i ∧ findP l f.name = (a : Int) ∧ l[a]? = some g ∧ g.name = f.name := by
  obtain ⟨r, hr⟩ := calls_prefix l (i + 1)
  rw [calls_succ hf] at hr
  cases hq : (callsP (l.take i)).find? (fun y => decide (y.2 = f.name)) with
  | none =>
    refine ⟨i, f, Nat.le_refl _, ?_, hf, rfl⟩
    unfold findP
    rw [← hr, List.append_assoc, List.find?_append, hq]
    simp
  | some y =>
    have h1 := List.find?_some hq
    obtain ⟨g, hg, hy⟩ := calls_mem (List.mem_of_find?_eq_some hq)
    rw [List.getElem?_take] at hg
    split at hg
    · refine ⟨y.1, g, by omega, ?_, hg, ?_⟩
      · unfold findP
        rw [← hr, List.append_assoc, List.find?_append, hq]
        rfl
      · rw [← hy]; simpa using h1
    · cases hg
theorem restN_prefix (K : List ByteArray) {a b : List (Nat × ByteArray)} (h : a <+: b) : restN K a <+: restN K b := by
  obtain ⟨r, rfl⟩ := h
  unfold restN
  rw [List.map_append, List.filter_append]
  exact List.prefix_append _ _
theorem rest_at {l : List FlP} {K : List ByteArray} {i : Nat} {f : FlP} (hf : l[i]? = some f) (hk : inB K f.name = false) :
    (restN K (callsP l))[(restN K (callsP (l.take i))).length]? = some f.name ∧ (restN K (callsP (l.take (i + 1)))).length = (restN K (callsP (l.take i))).length + 1 := by
  have h1 : restN K (callsP (l.take (i + 1))) = restN K (callsP (l.take i)) ++ [f.name] := by rw [calls_succ hf]; exact rest_no hk
  obtain ⟨r, hr⟩ := restN_prefix K (calls_prefix l (i + 1))
  rw [h1] at hr
  refine ⟨?_, by rw [h1]; simp⟩
  rw [← hr, List.append_assoc, List.getElem?_append_right (Nat.le_refl _)]
  simp
theorem rest_all (l : List FlP) : (restP l []).length = l.length := by
  unfold restP restN
  rw [List.filter_eq_self.2 (fun s _ => by simp [keptP, inB]), List.length_map, calls_len]

set_option maxRecDepth 100000 in
set_option maxHeartbeats 4000000 in
theorem rest_all_true (A : Option Addr) (n c : Nat) (l : List FlP) (A2 : Option Addr) (m c2 : Nat) (ks : List IdP) (w : World) (hP : Pow w) (hl : Fl w w.heap.size A n l) (hks : Ids w w.heap.size A2 m ks) (hOk : ∀ x ∈ ks, x.Ok) :
    Calls Tryd.prog 6 #[.slice A n c, .slice A2 m c2] w fun e w' => e = .returned (.bool true) ∧ Below w.heap.size w w' := by
  have HP := Lib.hid (⟨hP, hl, hks, hOk⟩ : _ ∧ _ ∧ _ ∧ _)
  have L1 := Lib.hid hl.1
  have L2 := Lib.hid hks.1
  clear hP hl hks hOk
  go_enter Tryd.func6, Tryd.ntmps6
  go_wp2_with fail
  refine (great_any A n c l w HP.out.2.1).mono ?_
  rintro e w1 ⟨⟨y, rfl, hsm⟩, hb1⟩
  by_cases hmany : y = true ∨ 40 < m
  · have hok : ∃ u, u = w1 := ⟨_, rfl⟩
    rcases hmany with rfl | h40
    · go_wp2_with fail
      refine (wakes_true w1 (HP.out.1.on hb1)).mono ?_
      rintro e w2 ⟨rfl, hb2⟩
      go_wp2_with fail
      go_ret
      exact ⟨rfl, below_on hb1 hb2⟩
    · have t0 : decide ((40 : Int) < (m : Int)) = true := by simp; omega
      cases y <;>
      · go_wp2_with fail
        refine (wakes_true w1 (HP.out.1.on hb1)).mono ?_
        rintro e w2 ⟨rfl, hb2⟩
        go_wp2_with fail
        go_ret
        exact ⟨rfl, below_on hb1 hb2⟩
  · obtain ⟨hy, hm⟩ : y = false ∧ m ≤ 40 := by
      cases y
      · exact ⟨rfl, by omega⟩
      · exact absurd (.inl rfl) hmany
    subst hy
    obtain ⟨hn, hnm⟩ := hsm rfl
    have t0 : decide ((40 : Int) < (m : Int)) = false := by simp; omega
    have HN := Lib.hid hnm
    clear hnm hsm hmany
    go_wp2_with fail
    refine (rest_any A n c l A2 m c2 ks w1 (HP.out.1.on hb1) (HP.out.2.1.on hb1 hb1.size) (HP.out.2.2.1.on hb1 hb1.size) HP.out.2.2.2 (fun f hf => by have := HN.out f hf; omega) (by omega) (by omega)).mono ?_
    rintro e w2 ⟨⟨v, rfl, hrow⟩, hb2⟩
    obtain ⟨B, c3, rfl, hst⟩ := Strs.of_own hrow
    have hB2 := below_on hb1 hb2
    obtain ⟨R, hR⟩ : ∃ R, R = (restP l ks).length := ⟨_, rfl⟩
    rw [← hR] at hst ⊢
    have hRb : R ≤ 40 := by
      rw [hR]
      refine Nat.le_trans (restN_le _ _) ?_
      rw [calls_len, L1.out]
      exact hn
    have H2 := Lib.hid (⟨hst, hB2, hR⟩ : _ ∧ _ ∧ _)
    clear hst hB2 hrow hb1 hb2 hR
    go_wp2_with fail
    go_loopw [6, 7] (fun s6 s7 wr => ∃ (i r : Nat), i ≤ n ∧ s7 = .int .i64 i ∧ s6 = .int .i64 r ∧ r = (restN (keptP ks) (callsP (l.take i))).length ∧ Below w2.heap.size w2 wr) (fun _ i _ => n - (intOf i).toNat)
    case atStart => exact ⟨0, 0, Nat.zero_le _, rfl, rfl, rfl, below_d0 _⟩
    case round =>
      obtain ⟨i, r, hi, rfl, rfl, hr, hB⟩ := hrel
      by_cases hlt : i < n
      · have hBw := below_on H2.out.2.1 hB
        obtain ⟨b, off, f, rfl, hb, hf, cf0, _⟩ := Fl.get HP.out.2.1 hlt
        have Hr := Lib.hid (⟨hr, hf, hBw, hb, cf0⟩ : _ ∧ _ ∧ _ ∧ _ ∧ _)
        clear hr hf hBw hb cf0
        go_wp2_with fail
        go_loopw [8, 9] (fun s8 s9 wq => ∃ (k : Nat), k ≤ m ∧ s9 = .int .i64 k ∧ s8 = .bool (inB (keptP (ks.take k)) f.name) ∧ Below w2.heap.size w2 wq) (fun _ i _ => m - (intOf i).toNat)
        case atStart => exact ⟨0, Nat.zero_le _, rfl, rfl, hB⟩
        case round =>
          obtain ⟨k, hk, rfl, rfl, hBq⟩ := hrel
          by_cases hlk : k < m
          · obtain ⟨b2, off2, x, rfl, hb2, hx, k0, k1, k2⟩ := Ids.get HP.out.2.2.1 hlk
            have hBq0 := below_on H2.out.2.1 hBq
            have q0 := (hBq0.cell (p := ⟨b2, off2 + k * 3, none⟩) hb2).trans k0
            have q1 := (hBq0.cell (p := ⟨b2, off2 + k * 3 + 1, none⟩) hb2).trans k1
            have q2 := (hBq0.cell (p := ⟨b2, off2 + k * 3 + 2, none⟩) hb2).trans k2
            have hxo := HP.out.2.2.2 x (List.mem_of_getElem? hx)
            obtain ⟨Y, hY⟩ : ∃ Y, Y = inB (keptP (ks.take k)) f.name := ⟨_, rfl⟩
            rw [← hY]
            have HK := Lib.hid (⟨k0, k1, k2, hb2, hx, hBq, hBq0, hxo, hY⟩ : _ ∧ _ ∧ _ ∧ _ ∧ _ ∧ _ ∧ _ ∧ _ ∧ _)
            clear k0 k1 k2 hb2 hx hBq hBq0 hxo hY
            go_wp2_with fail
            refine (name_any x wr (HP.out.1.on HK.out.2.2.2.2.2.2.1) HK.out.2.2.2.2.2.2.2.1).mono ?_
            rintro e wn ⟨rfl, hbn⟩
            clear q0 q1 q2
            obtain ⟨k0, k1, k2, hb2, hx, hBq, hBq0, hxo, hY⟩ := HK.out
            have hBn := below_on hBq hbn
            have hBn0 := below_on hBq0 hbn
            have q0 := (hBn0.cell (p := ⟨b2, off2 + k * 3, none⟩) hb2).trans k0
            have q1 := (hBn0.cell (p := ⟨b2, off2 + k * 3 + 1, none⟩) hb2).trans k1
            have q2 := (hBn0.cell (p := ⟨b2, off2 + k * 3 + 2, none⟩) hb2).trans k2
            have f0 := (hBn0.cell (p := ⟨b, off + i * 2, none⟩) Hr.out.2.2.2.1).trans Hr.out.2.2.2.2
            obtain ⟨N, hN⟩ : ∃ N, N = nameP x := ⟨_, rfl⟩
            rw [← hN]
            by_cases hM : MayP x
            · rw [show errP x = 0 from if_pos hM]
              by_cases hNf : N = f.name
              · have t1 := names_eq hNf
                have hkn : inB (keptP (ks.take (k + 1))) f.name = true := by
                  rw [kept_yes hx hM, inB_snoc, ← hN, hNf]; simp
                obtain ⟨a, gg, ha, hfa, hga, hgn⟩ := find_le Hr.out.2.1
                have hfo : foundP l x = (a : Int) := by unfold foundP; rw [if_pos hM, ← hN, hNf, hfa]
                have ta : decide ((a : Int) < 0) = false := by simp
                have tb : ¬ i < a := by omega
                obtain ⟨b', off', g', hbe, hb', hg', e0, _⟩ := Fl.get HP.out.2.1 (show a < n by omega)
                injection hbe with hbe
                injection hbe with z1 z2 _
                subst z1 z2
                obtain rfl : gg = g' := by rw [hga] at hg'; injection hg'
                have t2 := names_eq (show gg.name = N by rw [hgn, hNf])
                have hwf : findP l f.name = (a : Int) := hfa
                have HZ := Lib.hid (⟨hkn, hBn, hBn0, hxo, hfo, hb', e0⟩ : _ ∧ _ ∧ _ ∧ _ ∧ _ ∧ _ ∧ _)
                have Han := Lib.hid (show a < n by omega)
                have hav : a < n := by omega
                clear hkn hBn hBn0 hxo hfo hb' e0 hM hN hNf hfa hga hgn hg' hwf k0 k1 k2 hb2 hx hBq hBq0 hY hbn ha
                cases Y <;>
                · go_wp2_with fail
                  refine (find_any x HZ.out.2.2.2.1 (some ⟨b, off, none⟩) n c l wn (HP.out.1.on HZ.out.2.2.1) (HP.out.2.1.on HZ.out.2.2.1 HZ.out.2.2.1.size) (by omega)).mono ?_
                  rintro e wf ⟨rfl, hbf⟩
                  rw [HZ.out.2.2.2.2.1]
                  have hBf := below_on HZ.out.2.1 hbf
                  have g0 := ((below_on HZ.out.2.2.1 hbf).cell (p := ⟨b, off + a * 2, none⟩) HZ.out.2.2.2.2.2.1).trans HZ.out.2.2.2.2.2.2
                  clear hbf q0 q1 q2 f0
                  go_wp2_with fail
                  go_roundw
                  case rel => exact ⟨k + 1, by omega, by go_num, by rw [HZ.out.1], hBf⟩
                  case measure => simp [intOf]; omega
              · have t1 := names_ne hNf
                have hkn : inB (keptP (ks.take (k + 1))) f.name = Y := by
                  rw [kept_yes hx hM, inB_snoc, ← hN, decide_eq_false hNf, Bool.or_false, hY]
                have HZ := Lib.hid (⟨hkn, hBn⟩ : _ ∧ _)
                clear hkn hBn hBn0 hxo hM hN hNf k0 k1 k2 hb2 hx hBq hBq0 hY hbn q0 q1 q2 
                cases Y <;>
                · go_wp2_with fail
                  go_roundw
                  case rel => exact ⟨k + 1, by omega, by go_num, by rw [HZ.out.1], HZ.out.2⟩
                  case measure => simp [intOf]; omega
            · rw [show errP x = 2 from if_neg hM]
              have hkn : inB (keptP (ks.take (k + 1))) f.name = Y := by rw [kept_no hx hM, hY]
              have HZ := Lib.hid (⟨hkn, hBn⟩ : _ ∧ _)
              clear hkn hBn hBn0 hxo hM hN k0 k1 k2 hb2 hx hBq hBq0 hY hbn q0 q1 q2 f0
              cases Y <;>
              · go_wp2_with fail
                go_roundw
                case rel => exact ⟨k + 1, by omega, by go_num, by rw [HZ.out.1], HZ.out.2⟩
                case measure => simp [intOf]; omega
          · obtain rfl : k = m := by omega
            rw [List.take_of_length_le (show ks.length ≤ k by rw [L2.out]; exact Nat.le_refl _)]
            by_cases hY : inB (keptP ks) f.name = true
            · rw [hY]
              have hrr : r = (restN (keptP ks) (callsP (l.take (i + 1)))).length := by rw [calls_succ Hr.out.2.1, rest_yes hY]; exact Hr.out.1
              have HZ := Lib.hid hrr
              clear hrr hY
              go_wp2_with fail
              go_roundw
              case rel => exact ⟨i + 1, r, by omega, by go_num, rfl, HZ.out, hBq⟩
              case measure => simp [intOf]; omega
            · replace hY : inB (keptP ks) f.name = false := by simpa using hY
              rw [hY]
              obtain ⟨hat, hlen⟩ := rest_at Hr.out.2.1 hY
              rw [← Hr.out.1] at hat hlen
              have hrR : r < R := by rw [H2.out.2.2]; exact (List.getElem?_eq_some_iff.1 hat).1
              obtain ⟨b3, off3, s, rfl, hb3, hs, s0⟩ := Strs.get (H2.out.1.on hBq (Nat.le_refl _)) hrR
              obtain rfl : s = f.name := by
                have h := hs.symm.trans hat
                injection h
              have f0 := ((below_on H2.out.2.1 hBq).cell (p := ⟨b, off + i * 2, none⟩) Hr.out.2.2.2.1).trans Hr.out.2.2.2.2
              have t1 := names_eq (rfl : f.name = f.name)
              have tR : decide ((R : Int) ≤ (r : Int)) = false := by simp; omega
              have HZ := Lib.hid (⟨hlen, hBq⟩ : _ ∧ _)
              clear hlen hBq hY hat hs hb3
              go_wp2_with fail
              go_still_tail 15, (by kernel_rfl)
              change wpList _ _ _ _ _ wr.drew
              go_wp2_with fail
              go_roundw
              case rel => exact ⟨i + 1, r + 1, by omega, by go_num, by go_num, HZ.out.1.symm, HZ.out.2.drew⟩
              case measure => simp [intOf]; omega
      · obtain rfl : i = n := by omega
        rw [List.take_of_length_le (show l.length ≤ i by rw [L1.out]; exact Nat.le_refl _)] at hr
        obtain rfl : r = R := by rw [hr, H2.out.2.2]; rfl
        have HZ := Lib.hid (⟨hr, hB⟩ : _ ∧ _)
        clear hr hB
        go_wp2_with fail
        have hBw := below_on H2.out.2.1 HZ.out.2
        refine (rest_any A i c l none 0 0 [] wr (HP.out.1.on hBw) (HP.out.2.1.on hBw hBw.size) Row.nil (fun x hx => by cases hx) (fun f hf => by have := HN.out f hf; omega) (by omega) (by omega)).mono ?_
        rintro e we ⟨⟨v, rfl, hrow⟩, hbe⟩
        rw [rest_all, L1.out] at hrow
        obtain ⟨A', c', rfl, _⟩ := own_slice hrow
        have hBe := below_on hBw hbe
        clear hrow hbe hBw
        go_wp2_with fail
        refine (wakes_true we (HP.out.1.on hBe)).mono ?_
        rintro e wz ⟨rfl, hbz⟩
        go_wp2_with fail
        go_ret
        exact ⟨rfl, below_on hBe hbz⟩

end Go.Proofs.YtfalbbeehlaccaaDoor
