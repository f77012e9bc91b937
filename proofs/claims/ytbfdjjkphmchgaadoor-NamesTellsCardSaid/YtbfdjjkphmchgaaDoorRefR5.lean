/-
  moultref05.Rest: its contract.
-/
import Derived.Test.YtbfdjjkphmchgaaDoorRefs5
import Derived.Test.YtbfdjjkphmchgaaDoorStrs
namespace Go.Proofs.YtbfdjjkphmchgaaDoor
open Go.RowKit Go.Maps
set_option linter.unusedVariables false
set_option linter.unusedSimpArgs false

theorem str_cells : (Value.string ⟨#[]⟩).cells.size = 1 := rfl
theorem own_nil (w : World) (base : Nat) (e : TypeId) (size : Nat) : w.ownsRow base e size (.slice none 0 0) 0 [] := ⟨by simp, .inl ⟨rfl, rfl⟩⟩

theorem own_on {w w' : World} {base : Nat} {e : TypeId} {size n : Nat} {v : Value} {xs : List Value} (h : w.ownsRow base e size v n xs) (hb : Below w.heap.size w w') : w'.ownsRow base e size v n xs := by
  rcases h.2 with h0 | ⟨g', cap, cur, h0, _⟩
  · exact ⟨h.1, .inl h0⟩
  · exact h.kept (row := none) ⟨hb.os, hb.tape, hb.output, hb.size, fun j hj _ => hb.block j hj⟩ (.inr (by rw [h0]; simp [Value.ownBlock]))

set_option maxRecDepth 100000 in
set_option maxHeartbeats 4000000 in
theorem rrest_any (A : Option Addr) (n c : Nat) (l : List FlP) (A2 : Option Addr) (m c2 : Nat) (ks : List IdP) (w : World) (hP : Pow w) (hl : Fl w w.heap.size A n l) (hks : Ids w w.heap.size A2 m ks) (hn : n ≤ 1000) (hm : m ≤ 1000) :
    Calls Tryd.prog 23 #[.slice A n c, .slice A2 m c2] w (RestOut w (restP l ks)) := by
  have HP := Lib.hid (⟨hP, hl, hks⟩ : _ ∧ _ ∧ _)
  have L1 := Lib.hid hl.1
  have L2 := Lib.hid hks.1
  clear hP hl hks
  go_enter Tryd.func23, Tryd.ntmps23
  go_wp2_with fail
  go_loopw [5, 6] (fun s5 s6 wr => ∃ (i : Nat), i ≤ n ∧ s6 = .int .i64 i ∧ wr.ownsRow w.heap.size 9 1 s5 (restN (keptP ks) (callsP (l.take i))).length ((restN (keptP ks) (callsP (l.take i))).map strV) ∧ Below w.heap.size w wr) (fun _ s _ => n - (intOf s).toNat)
  case atStart => exact ⟨0, Nat.zero_le _, rfl, own_nil _ _ _ _, below_d0 _⟩
  case round =>
    obtain ⟨i, hi, rfl, hrow, hB⟩ := hrel
    obtain ⟨C, d, rfl, hCd⟩ := own_slice hrow
    by_cases hlt : i < n
    · obtain ⟨b, off, f, rfl, hb, hf, cf0, _⟩ := Fl.get HP.out.2.1 hlt
      have HI := Lib.hid (⟨hf, hb, cf0, hrow, hB⟩ : _ ∧ _ ∧ _ ∧ _ ∧ _)
      obtain ⟨R, hR⟩ : ∃ R, R = restN (keptP ks) (callsP (l.take i)) := ⟨_, rfl⟩
      rw [← hR]
      have HR := Lib.hid hR
      obtain ⟨w3, hw3⟩ : ∃ w3, w3 = wr := ⟨_, rfl⟩
      subst hw3
      clear hf hb cf0 hrow hB hR
      go_wp2_with fail
      go_loopw [7, 8] (fun s7 s8 wq => ∃ (k : Nat), k ≤ m ∧ s8 = .int .i64 k ∧ s7 = .bool (inB (keptP (ks.take k)) f.name) ∧ Below w3.heap.size w3 wq) (fun _ s _ => m - (intOf s).toNat)
      case atStart => exact ⟨0, Nat.zero_le _, rfl, rfl, below_d0 _⟩
      case round =>
        obtain ⟨k, hk, rfl, rfl, hBq⟩ := hrel
        have hBq0 := below_on HI.out.2.2.2.2 hBq
        by_cases hlk : k < m
        · obtain ⟨b2, off2, x, rfl, hb2, hx, q0, q1, q2⟩ := Ids.get (HP.out.2.2.on hBq0 (Nat.le_refl _)) hlk
          obtain ⟨Y, hY⟩ : ∃ Y, Y = inB (keptP (ks.take k)) f.name := ⟨_, rfl⟩
          rw [← hY]
          have HK := Lib.hid (⟨hx, hBq, hBq0, hY⟩ : _ ∧ _ ∧ _ ∧ _)
          clear hb2 hx hBq hBq0 hY
          go_wp2_with fail
          refine (rname_any x wr (HP.out.1.on HK.out.2.2.1)).mono ?_
          rintro e wn ⟨rfl, hbn⟩
          clear q0 q1 q2
          obtain ⟨hx, hBq, hBq0, hY⟩ := HK.out
          have hBn := below_on hBq hbn
          have hBn0 := below_on hBq0 hbn
          have f0 := (hBn0.cell (p := ⟨b, off + i * 2, none⟩) HI.out.2.1).trans HI.out.2.2.1
          obtain ⟨N, hN⟩ : ∃ N, N = nameP x := ⟨_, rfl⟩
          rw [← hN]
          by_cases hM : MayP x
          · rw [show errP x = 0 from if_pos hM]
            by_cases hNf : N = f.name
            · have t1 := names_eq hNf
              have hkn : inB (keptP (ks.take (k + 1))) f.name = true := by
                rw [kept_yes hx hM, inB_snoc, ← hN, hNf]; simp
              have HZ := Lib.hid (⟨hkn, hBn⟩ : _ ∧ _)
              clear hkn hBn hBn0 hM hN hNf hx hBq hBq0 hY hbn
              cases Y <;>
              · go_wp2_with fail
                go_roundw
                case rel => exact ⟨k + 1, by omega, by go_num, by rw [HZ.out.1], HZ.out.2⟩
                case measure => simp [intOf]; omega
            · have t1 := names_ne hNf
              have hkn : inB (keptP (ks.take (k + 1))) f.name = Y := by
                rw [kept_yes hx hM, inB_snoc, ← hN, decide_eq_false hNf, Bool.or_false, hY]
              have HZ := Lib.hid (⟨hkn, hBn⟩ : _ ∧ _)
              clear hkn hBn hBn0 hM hN hNf hx hBq hBq0 hY hbn
              cases Y <;>
              · go_wp2_with fail
                go_roundw
                case rel => exact ⟨k + 1, by omega, by go_num, by rw [HZ.out.1], HZ.out.2⟩
                case measure => simp [intOf]; omega
          · rw [show errP x = 2 from if_neg hM]
            have hkn : inB (keptP (ks.take (k + 1))) f.name = Y := by rw [kept_no hx hM, hY]
            have HZ := Lib.hid (⟨hkn, hBn⟩ : _ ∧ _)
            clear hkn hBn hBn0 hM hN hx hBq hBq0 hY hbn f0
            cases Y <;>
            · go_wp2_with fail
              go_roundw
              case rel => exact ⟨k + 1, by omega, by go_num, by rw [HZ.out.1], HZ.out.2⟩
              case measure => simp [intOf]; omega
        · obtain rfl : k = m := by omega
          rw [List.take_of_length_le (show ks.length ≤ k by rw [L2.out]; exact Nat.le_refl _)]
          have f0 := (hBq0.cell (p := ⟨b, off + i * 2, none⟩) HI.out.2.1).trans HI.out.2.2.1
          by_cases hY : inB (keptP ks) f.name = true
          · rw [hY]
            have HS := Lib.hid (⟨hBq0, own_on HI.out.2.2.2.1 hBq, rest_yes (K := keptP ks) (pre := callsP (l.take i)) (x := (i, f.name)) hY⟩ : _ ∧ _ ∧ _)
            clear hBq hBq0 hY f0
            go_wp2_with fail
            go_roundw
            case rel => exact ⟨i + 1, by omega, by go_num, by rw [calls_succ HI.out.1, HS.out.2.2]; exact HR.out ▸ HS.out.2.1, HS.out.1⟩
            case measure => simp [intOf]; omega
          · have hY' : inB (keptP ks) f.name = false := by simpa using hY
            rw [hY']
            obtain ⟨i0, hi0, hz0, hz1, hz2⟩ := info_partsV info_str
            have hlen : R.length ≤ 1000 := by
              rw [HR.out]
              refine Nat.le_trans (restN_le _ _) ?_
              rw [calls_len, List.length_take]
              omega
            have hown := own_on HI.out.2.2.2.1 hBq
            rw [← HR.out] at hown
            have HS := Lib.hid (⟨hBq0, rest_no (K := keptP ks) (pre := callsP (l.take i)) (x := (i, f.name)) hY'⟩ : _ ∧ _)
            have hsz0 : w.heap.size ≤ wr.heap.size := hBq0.size
            clear hBq hBq0 hY hY'
            go_wp2_with (at_builtin; refine hold ?_)
            refine unhold (wpList_append (.tmp 47) (.tmp 53) 38 Tryd.underlying38 hi0 hz0 hz1 hz2 str_cells (by omega) (hown.alloc _) (Source.one (cs := [.string f.name]) rfl (by simp [Value.oneCell']) rfl) (by unfold maxLen; omega) (by omega) (by simp; omega) rfl rfl rfl rfl ?_)
            intro v1 w5 L3
            have hb5 : Below w.heap.size w w5 := L3.below (HS.out.1.alloc hsz0 _) (by simp; omega) (fun g hg => (hown.lt g hg).1)
            have H5 := Lib.hid (⟨hb5, L3.1⟩ : _ ∧ _)
            clear L3 hown hb5
            go_wp2_with fail
            go_roundw
            case rel =>
              refine ⟨i + 1, by omega, by go_num, ?_, H5.out.1⟩
              rw [calls_succ HI.out.1, HS.out.2, List.length_append, List.map_append, ← HR.out]
              exact H5.out.2
            case measure => simp [intOf]; omega
    · obtain rfl : i = n := by omega
      rw [List.take_of_length_le (by rw [L1.out]; exact Nat.le_refl _)] at hrow ⊢
      have HI := Lib.hid (⟨hrow, hB⟩ : _ ∧ _)
      clear hrow hB hCd
      go_wp2_with fail
      go_ret
      exact ⟨⟨_, rfl, HI.out.1⟩, HI.out.2⟩

end Go.Proofs.YtbfdjjkphmchgaaDoor
